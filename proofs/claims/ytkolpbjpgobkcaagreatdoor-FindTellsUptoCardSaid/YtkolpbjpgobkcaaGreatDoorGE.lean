/- The contracts of the reference's Ends, Jumps and CodeFault. The contracts of the reference's In and HandlersFault. -/
import Derived.Test.YtkolpbjpgobkcaaGreatDoorGH
import Derived.Test.YtkolpbjpgobkcaaGreatDoorInR
import Derived.Test.YtkolpbjpgobkcaaGreatDoorGI
import Derived.Test.YtkolpbjpgobkcaaGreatDoorGB
namespace Go.Proofs.YtkolpbjpgobkcaaGreatDoor
open Go.ChangeShapes Go.WideShapes Go.ChangeAt Go.RowKit
set_option linter.unusedVariables false
attribute [local go_sem] eqGuard_errV_nil eqGuard_errV_iface eql_errV_nil neq_errV_nil eql_errV_form

theorem rends_any (op : Int) (w : World) : Calls Tryz.prog 61 #[.int .i64 op] w fun e w' => e = .returned (.bool (!goesB op)) ∧ w = w' := by
  have hcase : op = 14 ∨ op = 26 ∨ op = 27 ∨ op = 28 ∨ (¬ op = 14 ∧ ¬ op = 26 ∧ ¬ op = 27 ∧ ¬ op = 28) := by omega
  rcases hcase with rfl | rfl | rfl | rfl | ⟨h1, h2, h3, h4⟩
  iterate 4
    · go_enter Tryz.func61, Tryz.ntmps61
      go_wp2
      go_ret
      exact ⟨rfl, rfl⟩
  · have hg : (!goesB op) = false := by simp [goesB, h1, h2, h3, h4]
    have e1 : (op == 14) = false := by simpa using h1
    have e2 : (op == 26) = false := by simpa using h2
    have e3 : (op == 27) = false := by simpa using h3
    have e4 : (op == 28) = false := by simpa using h4
    rw [hg]
    clear h1 h2 h3 h4 hg
    go_enter Tryz.func61, Tryz.ntmps61
    go_wp2
    go_ret
    exact ⟨rfl, rfl⟩
theorem rjumps_any (op : Int) (w : World) : Calls Tryz.prog 60 #[.int .i64 op] w fun e w' => e = .returned (.bool (jumpB op)) ∧ w = w' := jumps_any op w

def InsD.small (x : InsD) : Prop := x.ty.length ≤ 1048576 ∧ x.cl.length ≤ 1048576 ∧ x.nm.length ≤ 1048576
set_option maxRecDepth 20000 in
set_option maxHeartbeats 4000000 in
theorem rfault_any (l : List InsD) (A : Option Addr) (n c : Nat) (w : World) (R : InsRow w A n c l) (hs : ∀ x ∈ l, x.small) (hn : n ≤ 1048576) :
    Calls Tryz.prog 51 #[.slice A n c] w fun e w' => e = .returned (.int .i64 (flowF l : Int)) ∧ Below w.heap.size w w' := by
  have hl : l.length = n := R.1
  by_cases h40 : 40 < n
  · have HC := Lib.hid (flowF_full (l := l) (by omega))
    clear hl
    go_enter Tryz.func51, Tryz.ntmps51
    go_wp2
    go_ret
    exact ⟨ret_int (by rw [HC.out]; rfl), Below.refl _ _⟩
  · have HL := Lib.hid hl
    have HR := Lib.hid R
    have HS := Lib.hid hs
    have H40 := Lib.hid (show ¬ 40 < l.length by omega)
    clear hl R hs
    go_enter Tryz.func51, Tryz.ntmps51
    go_wp2_with fail
    go_loopw [3, 4] (fun i _ wr => ∃ j : Nat, j ≤ n ∧ i = .int .i64 j ∧ Hid (∀ x ∈ l.take j, insF x = 0) ∧ Hid (Below w.heap.size w wr)) (fun i _ _ => n - (intOf i).toNat)
    case atStart => exact ⟨0, Nat.zero_le _, rfl, Lib.hid (fun x hx => by cases hx), Lib.hid (Below.refl _ _)⟩
    case round =>
      obtain ⟨j, hj, rfl, HG, HB⟩ := hrel
      by_cases hlt : j < n
      · obtain ⟨b1, o1, rfl, hb1, hx1⟩ := (HR.out.below HB.out).at_ hlt
        have hj1 : j < l.length := by rw [HL.out]; exact hlt
        have hfx := HS.out l[j] (List.getElem_mem _)
        have HX := fun w => fault_any l[j] w hfx.1 hfx.2.1 hfx.2.2
        clear hfx
        by_cases h0 : insF l[j] = 0
        · have HG2 := Lib.hid (take_next hj1 HG.out h0)
          rw [h0] at HX
          clear h0
          generalize l[j] = x at *
          obtain ⟨xo, xa, xb, xt, xc, xn⟩ := x
          obtain ⟨c0, c1, c2, c3, c4, c5⟩ := hx1
          unfold insV at HX
          replace HX := Lib.hid HX
          go_wp2_with (first
            | (go_at_call 59; (with_reducible refine (HX.out _).mono ?_); rintro e w1 ⟨rfl, b1⟩
               have HB1 := Lib.hid (bnext HB.out b1)
               clear b1))
          go_round
          case rel => exact ⟨j + 1, by omega, by go_num, HG2, HB1⟩
          case measure => first | (simp [intOf]; omega) | simp [intOf]
        · have HC := Lib.hid (flowF_bad H40.out hj1 HG.out h0)
          have hne : ((insF l[j] : Int) != 0) = true := by rw [bne_iff_ne]; omega
          clear h0
          generalize insF l[j] = f at *
          generalize l[j] = x at *
          obtain ⟨xo, xa, xb, xt, xc, xn⟩ := x
          obtain ⟨c0, c1, c2, c3, c4, c5⟩ := hx1
          unfold insV at HX
          replace HX := Lib.hid HX
          go_wp2_with (first
            | (go_at_call 59; (with_reducible refine (HX.out _).mono ?_); rintro e w1 ⟨rfl, b1⟩
               have HB1 := Lib.hid (bnext HB.out b1)
               clear b1))
          go_ret
          exact ⟨ret_int (by rw [HC.out]), HB1.out⟩
      · obtain rfl : j = n := by omega
        have HG0 := HG.out
        rw [List.take_of_length_le (by rw [HL.out]; exact Nat.le_refl _)] at HG0
        replace HG0 := Lib.hid HG0
        clear HG hlt hj
        go_wp2_with fail
        go_loopw [5] (fun i wr => ∃ k : Nat, k ≤ j ∧ i = .int .i64 k ∧ Hid (∀ x ∈ l.take k, farB j x = false) ∧ Hid (Below w.heap.size w wr)) (fun i _ => j - (intOf i).toNat)
        case atStart => exact ⟨0, Nat.zero_le _, rfl, Lib.hid (fun x hx => by cases hx), HB⟩
        case round =>
          obtain ⟨k, hk, rfl, HG, HB⟩ := hrel
          by_cases hlt : k < j
          · obtain ⟨b1, o1, rfl, hb1, hx1⟩ := (HR.out.below HB.out).at_ hlt
            have hj1 : k < l.length := by rw [HL.out]; exact hlt
            have HJ := fun w => rjumps_any l[k].op w
            have HFar := Lib.hid (show farB l.length l[k] = true → flowF l = 2 from fun h => flowF_far H40.out HG0.out hj1 h)
            have HG2 := Lib.hid (show farB j l[k] = false → _ from fun h => take_next hj1 HG.out h)
            rw [HL.out] at HFar
            unfold farB at HFar
            generalize l[k] = x at *
            obtain ⟨xo, xa, xb, xt, xc, xn⟩ := x
            obtain ⟨c0, c1, c2, c3, c4, c5⟩ := hx1
            have hcase : (jumpB xo = false ∧ Hid (∀ x ∈ l.take (k + 1), farB j x = false)) ∨ (jumpB xo = true ∧ ¬ (j : Int) ≤ xa ∧ Hid (∀ x ∈ l.take (k + 1), farB j x = false)) ∨ (jumpB xo = true ∧ (j : Int) ≤ xa ∧ Hid (flowF l = 2)) := by
              cases hjb : jumpB xo with
              | false => exact .inl ⟨rfl, Lib.hid (HG2.out (by simp [farB, hjb]))⟩
              | true =>
                by_cases hna : (j : Int) ≤ xa
                · exact .inr (.inr ⟨rfl, hna, Lib.hid (HFar.out (by simp [hjb, hna]))⟩)
                · exact .inr (.inl ⟨rfl, hna, Lib.hid (HG2.out (by simp [farB, hjb, hna]))⟩)
            clear HFar HG2
            rcases hcase with ⟨hjb, HH⟩ | ⟨hjb, hna, HH⟩ | ⟨hjb, hna, HH⟩
            all_goals
              simp only [hjb] at HJ
              replace HJ := Lib.hid HJ
            · go_wp2_with (first
                | (go_at_call 60; (with_reducible refine (HJ.out _).mono ?_); rintro e w1 ⟨rfl, rfl⟩))
              go_round
              case rel => exact ⟨k + 1, by omega, by go_num, HH, HB⟩
              case measure => first | (simp [intOf]; omega) | simp [intOf]
            · go_wp2_with (first
                | (go_at_call 60; (with_reducible refine (HJ.out _).mono ?_); rintro e w1 ⟨rfl, rfl⟩))
              go_round
              case rel => exact ⟨k + 1, by omega, by go_num, HH, HB⟩
              case measure => first | (simp [intOf]; omega) | simp [intOf]
            · go_wp2_with (first
                | (go_at_call 60; (with_reducible refine (HJ.out _).mono ?_); rintro e w1 ⟨rfl, rfl⟩))
              go_ret
              exact ⟨ret_int (by rw [HH.out]; rfl), HB.out⟩
          · obtain rfl : k = j := by omega
            have HE := flowF_last H40.out HG0.out (by
              have h := HG.out
              rw [List.take_of_length_le (by rw [HL.out]; exact Nat.le_refl _)] at h
              rw [HL.out]; exact h)
            replace HE := Lib.hid HE
            clear HG
            by_cases h0 : k = 0
            · have hz : ((k : Int) == 0) = true := by simp [h0]
              have HZ := Lib.hid (show lastGoesB l = true by unfold lastGoesB; rw [HL.out, h0]; rfl)
              go_wp2
              go_ret
              exact ⟨ret_int (by rw [HE.out, HZ.out]; rfl), HB.out⟩
            · have hz : ((k : Int) == 0) = false := by rw [beq_eq_false_iff_ne]; omega
              obtain ⟨b1, o1, rfl, hb1, hx1⟩ := (HR.out.below HB.out).at_ (k := k - 1) (by omega)
              have HJ := fun w => rends_any (l[k - 1]'(by rw [HL.out]; omega)).op w
              have HZ : lastGoesB l = goesB (l[k - 1]'(by rw [HL.out]; omega)).op := lastGoes_at HL.out h0 _
              generalize (l[k - 1]'(by rw [HL.out]; omega)) = x at *
              obtain ⟨xo, xa, xb, xt, xc, xn⟩ := x
              obtain ⟨c0, c1, c2, c3, c4, c5⟩ := hx1
              simp only at HZ HJ
              have hk1 : IntKind.i64.wrap ((k : Int) - 1) = ((k - 1 : Nat) : Int) := by rw [IntKind.wrap_i64]; omega
              cases hgb : goesB xo
              all_goals
                rw [hgb] at HZ
                simp only [hgb] at HJ
                replace HZ := Lib.hid HZ
                replace HJ := Lib.hid HJ
                go_wp2_with (first
                  | (go_at_call 61; (with_reducible refine (HJ.out _).mono ?_); rintro e w1 ⟨rfl, rfl⟩))
                go_ret
                exact ⟨ret_int (by rw [HE.out, HZ.out]; rfl), HB.out⟩
end Go.Proofs.YtkolpbjpgobkcaaGreatDoor
namespace Go.Proofs.YtkolpbjpgobkcaaGreatDoor
open Go.ChangeShapes Go.WideShapes Go.ChangeAt Go.RowKit
set_option linter.unusedVariables false
attribute [local go_sem] eqGuard_errV_nil eqGuard_errV_iface eql_errV_nil neq_errV_nil eql_errV_form

theorem str_ne {a b : List UInt8} (h : a ≠ b) : ((bs a).toList == (bs b).toList) = false := by rw [ByteArray.toList_eq, ByteArray.toList_eq, beq_eq_false_iff_ne]; exact h
theorem any_take {α : Type} {p : α → Bool} {l : List α} {j : Nat} (hj : j < l.length) (h : (l.take j).any p = false) (hn : p l[j] = false) : (l.take (j + 1)).any p = false := by
  rw [List.take_succ_eq_append_getElem hj, List.any_append, h, List.any_cons, hn]; rfl
theorem any_at {α : Type} {p : α → Bool} {l : List α} {j : Nat} (hj : j < l.length) (hn : p l[j] = true) : l.any p = true := List.any_eq_true.2 ⟨_, List.getElem_mem hj, hn⟩
set_option maxHeartbeats 1000000 in
theorem rin_any (A : Option Addr) (n c : Nat) (xs : List (List UInt8)) (y : List UInt8) (w : World) (R : StrRow w A n c xs) (hn : n ≤ 1099511627776) :
    Calls Tryz.prog 28 #[.slice A n c, .string (bs y)] w fun e w' => e = .returned (.bool (xs.any (· == y))) ∧ w = w' := by
  have hl : xs.length = n := R.1
  have HL := Lib.hid hl
  have HR := Lib.hid R
  clear hl R
  go_enter Tryz.func28, Tryz.ntmps28
  go_wp2
  go_loop [5] (fun i => ∃ k : Nat, k ≤ n ∧ i = .int .i64 k ∧ Hid ((xs.take k).any (· == y) = false)) (fun i => n - (intOf i).toNat)
  case atStart => exact ⟨0, Nat.zero_le _, rfl, Lib.hid rfl⟩
  case round =>
    obtain ⟨k, hk, rfl, HT⟩ := hrel
    by_cases hlt : k < n
    · obtain ⟨b1, o1, rfl, hb1, hc1⟩ := HR.out.at_ hlt
      have h1 : k < xs.length := by rw [HL.out]; exact hlt
      rw [Nat.mul_one] at hc1
      unfold StrAt at hc1
      by_cases he : xs[k] = y
      · have HA := Lib.hid (any_at (p := (· == y)) h1 (by simp [he]))
        rw [he] at hc1
        clear he
        go_wp2
        go_ret
        exact ⟨ret_bool HA.out.symm, rfl⟩
      · have HT2 := Lib.hid (any_take (p := (· == y)) h1 HT.out (by simpa using he))
        have hne := str_ne he
        clear he
        go_wp2
        go_round
        case rel => exact ⟨k + 1, by omega, by go_num, HT2⟩
        case measure => first | (simp [intOf]; omega) | simp [intOf]
    · obtain rfl : k = n := by omega
      go_wp2
      go_ret
      refine ⟨ret_bool ?_, rfl⟩
      have h := HT.out
      rw [List.take_of_length_le (by rw [HL.out]; exact Nat.le_refl _)] at h
      exact h.symm

theorem span_cases {n : Nat} {x : HandD} (h : spanB n x = false) : x.fr < 0 ∨ (¬ x.fr < 0 ∧ x.tu ≤ x.fr) ∨ (¬ x.fr < 0 ∧ ¬ x.tu ≤ x.fr ∧ (n : Int) < x.tu) ∨ (¬ x.fr < 0 ∧ ¬ x.tu ≤ x.fr ∧ ¬ (n : Int) < x.tu ∧ x.pos < 0) ∨ (¬ x.fr < 0 ∧ ¬ x.tu ≤ x.fr ∧ ¬ (n : Int) < x.tu ∧ ¬ x.pos < 0 ∧ (n : Int) ≤ x.pos) := by
  have := of_decide_eq_false h
  omega
theorem span_true {n : Nat} {x : HandD} (h : spanB n x = true) : ¬ x.fr < 0 ∧ ¬ x.tu ≤ x.fr ∧ ¬ (n : Int) < x.tu ∧ ¬ x.pos < 0 ∧ ¬ (n : Int) ≤ x.pos := by
  have := of_decide_eq_true h
  omega
theorem hand_next {n : Nat} {l : List HandD} {j : Nat} (h : ∀ (i : Nat) (hi : i < l.length), i < j → handF n (l.take i) l[i] = 0) (hj : j < l.length) (h0 : handF n (l.take j) l[j] = 0) : ∀ (i : Nat) (hi : i < l.length), i < j + 1 → handF n (l.take i) l[i] = 0 := fun i hi hij => by
  by_cases e : i = j
  · subst e; exact h0
  · exact h i hi (by omega)
theorem handsF_at {n : Nat} {l : List HandD} {j : Nat} (hj : j < l.length) (h : ∀ (i : Nat) (hi : i < l.length), i < j → handF n (l.take i) l[i] = 0) (hf : handF n (l.take j) l[j] ≠ 0) : handsF l n = handF n (l.take j) l[j] := by
  have e := firstAt_at hj (fun i hi => h i (by omega) hi) hf
  unfold handsF
  rw [e, if_pos hf]
theorem handsF_end {n : Nat} {l : List HandD} (h : ∀ (i : Nat) (hi : i < l.length), i < l.length → handF n (l.take i) l[i] = 0) : handsF l n = if 8 < l.length then 4 else 0 := by
  unfold handsF
  rw [if_neg]
  rw [firstAt_zero fun j hj => h j hj hj]; simp
set_option maxRecDepth 20000 in
set_option maxHeartbeats 4000000 in
theorem rhands_any (l : List HandD) (A : Option Addr) (n c m : Nat) (w : World) (R : HandRow w A n c l) (hn : n ≤ 1099511627776) (hs : ∀ x ∈ l, x.cl.length ≤ 1048576) (hm : m ≤ 1099511627776) :
    Calls Tryz.prog 52 #[.slice A n c, .int .i64 (m : Int)] w fun e w' => e = .returned (.int .i64 (handsF l m : Int)) ∧ Below w.heap.size w w' := by
  have hl : l.length = n := R.1
  have HL := Lib.hid hl
  have HR := Lib.hid R
  have HS := Lib.hid hs
  clear hl R hs
  go_enter Tryz.func52, Tryz.ntmps52
  go_wp2_with fail
  go_loopw [5, 6] (fun i _ wr => ∃ j : Nat, j ≤ n ∧ i = .int .i64 j ∧ Hid (∀ (i : Nat) (hi : i < l.length), i < j → handF m (l.take i) l[i] = 0) ∧ Hid (Below w.heap.size w wr)) (fun i _ _ => n - (intOf i).toNat)
  case atStart => exact ⟨0, Nat.zero_le _, rfl, Lib.hid (fun i hi h => by omega), Lib.hid (Below.refl _ _)⟩
  case round =>
    obtain ⟨j, hj, rfl, HG, HB⟩ := hrel
    by_cases hlt : j < n
    · obtain ⟨b1, o1, rfl, hb1, hx1⟩ := (HR.out.below HB.out).at_ hlt
      have hj1 : j < l.length := by rw [HL.out]; exact hlt
      have hsx := HS.out l[j] (List.getElem_mem _)
      have HN := fun w => isName_any (bs l[j].cl) w (by rw [bs_size]; unfold maxLen; omega)
      have HZ := Lib.hid (show handF m (l.take j) l[j] = 0 → _ from fun h => hand_next HG.out hj1 h)
      have HF := Lib.hid (show handF m (l.take j) l[j] ≠ 0 → _ from fun h => handsF_at hj1 HG.out h)
      unfold handF at HF HZ
      generalize l[j] = x at *
      have hsz := HB.out.size
      cases hsp : spanB m x with
      | false =>
        have HC := Lib.hid (show handsF l m = 2 from by
          have := HF.out
          rw [hsp] at this
          simpa using this)
        have hcase := span_cases hsp
        clear HZ HF HN hsp hsx
        obtain ⟨xf, xt, xp, xc⟩ := x
        obtain ⟨c0, c1, c2, c3⟩ := hx1
        simp only at hcase
        rcases hcase with h1 | ⟨h1, h2⟩ | ⟨h1, h2, h3⟩ | ⟨h1, h2, h3, h4⟩ | ⟨h1, h2, h3, h4, h5⟩
        all_goals
          go_wp2_with fail
          go_ret
          exact ⟨ret_int (by rw [HC.out]; rfl), bnext HB.out (al1 _ _)⟩
      | true =>
        have hcase := span_true hsp
        rw [hsp] at HF HZ
        simp only [Bool.true_eq_false, if_false] at HF HZ
        clear hsp
        obtain ⟨xf, xt, xp, xc⟩ := x
        obtain ⟨c0, c1, c2, c3⟩ := hx1
        simp only at hcase HF HZ HN hsx
        obtain ⟨h1, h2, h3, h4, h5⟩ := hcase
        rw [bs_list] at HN
        cases hnb : nameB xc with
        | false =>
          rw [hnb] at HN HF
          have HC := Lib.hid (show handsF l m = 1 from by simpa using HF.out)
          replace HN := Lib.hid HN
          clear HF HZ hsx hnb
          go_wp2_with (first
            | (go_at_call 38; (with_reducible refine (HN.out _).mono ?_); rintro e w1 ⟨rfl, rfl⟩))
          go_ret
          exact ⟨ret_int (by rw [HC.out]; rfl), bnext HB.out (al1 _ _)⟩
        | true =>
          rw [hnb] at HN HZ
          have HC := Lib.hid (HZ.out (by simp))
          replace HN := Lib.hid HN
          clear HF HZ hsx hnb
          have HB1 := Lib.hid (bnext HB.out (al1 wr (.cells #[.int .i64 xf, .int .i64 xt, .int .i64 xp, .string (bs xc)] 81)))
          go_wp2_with (first
            | (go_at_call 38; (with_reducible refine (HN.out _).mono ?_); rintro e w1 ⟨rfl, rfl⟩))
          go_round
          case rel => exact ⟨j + 1, by omega, by go_num, HC, HB1⟩
          case measure => first | (simp [intOf]; omega) | simp [intOf]
    · obtain rfl : j = n := by omega
      have HE := Lib.hid (handsF_end (n := m) (l := l) (fun i hi h => HG.out i hi (by rw [← HL.out]; exact h)))
      rw [HL.out] at HE
      by_cases h8 : 8 < j
      all_goals
        have HH := Lib.hid HE.out
        first
        | rw [if_pos h8] at HH
        | rw [if_neg h8] at HH
        go_wp2
        go_ret
        exact ⟨ret_int (by rw [HH.out]; rfl), HB.out⟩
end Go.Proofs.YtkolpbjpgobkcaaGreatDoor
