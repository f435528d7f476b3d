/- class.localsNeeded, class.checkHandlers. -/
import Derived.Test.YtkabkpkfglngnaaDoorClF
import Derived.Test.YtkabkpkfglngnaaDoorNaC
namespace Go.Proofs.YtkabkpkfglngnaaDoor
open Go.ChangeShapes Go.WideShapes Go.ChangeAt Go.RowKit
set_option linter.unusedVariables false
attribute [local go_sem] eqGuard_errV_nil eqGuard_errV_iface eql_errV_nil neq_errV_nil eql_errV_form

/-- The smallest number of locals above n that is enough for the instructions. -/
def needN (n : Int) (l : List InsD) : Int := l.foldl (fun n x => if x.op = 4 ∨ x.op = 5 then max n (x.a + 1) else n) n
theorem need_next {n : Int} {l : List InsD} {k : Nat} (hk : k < l.length) : needN n (l.take (k + 1)) = if l[k].op = 4 ∨ l[k].op = 5 then max (needN n (l.take k)) (l[k].a + 1) else needN n (l.take k) := by
  unfold needN
  rw [List.take_succ_eq_append_getElem hk, List.foldl_append]
  rfl
theorem need_lt : ∀ {l : List InsD} {n lo : Int}, lo < needN n l ↔ lo < n ∨ l.any (localB lo) = true
  | [], n, lo => by simp [needN]
  | x :: t, n, lo => by
    have ih := need_lt (l := t) (n := if x.op = 4 ∨ x.op = 5 then max n (x.a + 1) else n) (lo := lo)
    show lo < needN _ t ↔ _
    rw [ih, List.any_cons, Bool.or_eq_true, localB, Bool.and_eq_true, decide_eq_true_eq, decide_eq_true_eq]
    generalize t.any (localB lo) = q
    split <;> cases q <;> simp <;> omega
theorem need_bound : ∀ {l : List InsD} {n : Int}, 0 ≤ n → n ≤ 8 → (∀ x ∈ l, x.op = 4 ∨ x.op = 5 → 0 ≤ x.a ∧ x.a ≤ 7) → 0 ≤ needN n l ∧ needN n l ≤ 8
  | [], n, h0, h8, _ => ⟨h0, h8⟩
  | x :: t, n, h0, h8, h => by
    have hx := h x (by simp)
    show 0 ≤ needN _ t ∧ needN _ t ≤ 8
    refine need_bound ?_ ?_ fun y hy => h y (by simp [hy]) <;> dsimp only <;> split <;> omega
theorem good_local {x : InsD} (h : insF x = 0) (ho : x.op = 4 ∨ x.op = 5) : 0 ≤ x.a ∧ x.a ≤ 7 := by
  obtain ⟨k, hx, h0, hk, ho', hr, _⟩ := insF_zero h
  unfold rangeB at hr
  rw [if_neg (by omega), if_pos ho] at hr
  have := of_decide_eq_true hr
  omega
theorem flow_local {l : List InsD} (hw : ∀ x ∈ l, x.wf) (h : flowF l = 0) : ∀ x ∈ l, x.op = 4 ∨ x.op = 5 → 0 ≤ x.a ∧ x.a ≤ 7 := fun x hx ho => good_local (((flowF_ok hw).1 h).2.1 x hx).2 ho
theorem flow_len {l : List InsD} (hw : ∀ x ∈ l, x.wf) (h : flowF l = 0) : l.length ≤ 40 := ((flowF_ok hw).1 h).1

set_option maxRecDepth 20000 in
set_option maxHeartbeats 4000000 in
theorem needs_any (m : MethD) (q : Nat) (A : Option Addr) (i j : Nat) (B : Option Addr) (k l : Nat) (w : World) (RC : InsRow w A i j m.code) (hq : q ≤ 5) (hi : i ≤ 40) (hc : ∀ x ∈ m.code, x.op = 4 ∨ x.op = 5 → 0 ≤ x.a ∧ x.a ≤ 7) :
    Calls Tryd.prog 41 #[methV m A i j B k l, .int .i64 (q : Int)] w fun e w' => e = .returned (.int .i64 (needN ((q + if m.st then 0 else 1 : Nat) : Int) m.code)) ∧ Below w.heap.size w w' := by
  have hl : m.code.length = i := RC.1
  have HL := Lib.hid hl
  have HB0 := Lib.hid (al1 w (.cells #[.string (bs m.nm), .string (bs m.ty), .bool m.st, .bool m.ab, .bool m.pr, .int .i64 m.lo, .slice A i j, .slice B k l] 41))
  have HR := Lib.hid (RC.below HB0.out)
  have HC := Lib.hid hc
  clear hl RC hc
  unfold methV
  obtain ⟨n0, hn0⟩ : ∃ n0 : Int, n0 = ((q + if m.st then 0 else 1 : Nat) : Int) := ⟨_, rfl⟩
  rw [← hn0]
  have hst : (m.st = true ∧ n0 = q) ∨ (m.st = false ∧ n0 = (q : Int) + 1) := by
    cases h : m.st with
    | true => rw [h] at hn0; exact .inl ⟨rfl, by simpa using hn0⟩
    | false => rw [h] at hn0; exact .inr ⟨rfl, by simpa using hn0⟩
  clear hn0
  rcases hst with ⟨h1, h2⟩ | ⟨h1, h2⟩
  all_goals
    rw [h1] at HB0 HR ⊢
    have h3 : 0 ≤ n0 ∧ n0 ≤ 8 := by omega
    have hwr : IntKind.i64.wrap ((q : Int) + 1) = (q : Int) + 1 := by rw [IntKind.wrap_i64]; omega
    go_enter Tryd.func41, Tryd.ntmps41
    go_wp2
    generalize w.alloc _ = v at *
    go_loopw [5, 7, 17] (fun nv _ i' wr => ∃ k : Nat, k ≤ i ∧ i' = .int .i64 k ∧ nv = .int .i64 (needN n0 (m.code.take k)) ∧ Hid (Below v.heap.size v wr)) (fun _ _ i' _ => i - (intOf i').toNat)
    case atStart => exact ⟨0, Nat.zero_le _, rfl, (show _ = Value.int .i64 n0 by rw [h2]), Lib.hid (Below.refl _ _)⟩
    case round =>
      obtain ⟨a, ha, rfl, rfl, HB⟩ := hrel
      by_cases hlt : a < i
      · obtain ⟨b1, o1, rfl, hb1, hx1⟩ := (HR.out.below HB.out).at_ hlt
        have ha1 : a < m.code.length := by rw [HL.out]; exact hlt
        have HN := need_next (n := n0) ha1
        have hxc := HC.out m.code[a] (List.getElem_mem ha1)
        obtain ⟨d1, d2⟩ := need_bound (l := m.code.take a) h3.1 h3.2 fun x hx => HC.out x (List.mem_of_mem_take hx)
        generalize needN n0 (m.code.take a) = cur at *
        generalize m.code[a] = x at *
        obtain ⟨xo, xa, xb, xt, xc, xn⟩ := x
        obtain ⟨c0, c1, c2, c3, c4, c5⟩ := hx1
        simp only at HN hxc
        have hc : (xo = 4 ∧ xa + 1 ≤ cur) ∨ (xo = 4 ∧ cur < xa + 1) ∨ (xo = 5 ∧ xa + 1 ≤ cur) ∨ (xo = 5 ∧ cur < xa + 1) ∨ (¬ xo = 4 ∧ ¬ xo = 5) := by omega
        rcases hc with ⟨g1, g2⟩ | ⟨g1, g2⟩ | ⟨g1, g2⟩ | ⟨g1, g2⟩ | ⟨g1, g2⟩
        · have HV := Lib.hid (show needN n0 (m.code.take (a + 1)) = cur by rw [HN, if_pos (.inl g1)]; omega)
          have hxa := hxc (.inl g1)
          subst g1
          clear HN hxc h1 h2
          go_wp2
          go_roundw
          case rel => exact ⟨a + 1, by omega, by go_num, by rw [HV.out]; go_num, Lib.hid (bnext HB.out (al1 _ _))⟩
          case measure => first | (simp [intOf]; omega) | simp [intOf]
        · have HV := Lib.hid (show needN n0 (m.code.take (a + 1)) = xa + 1 by rw [HN, if_pos (.inl g1)]; omega)
          have hxa := hxc (.inl g1)
          subst g1
          clear HN hxc h1 h2
          go_wp2
          go_roundw
          case rel => exact ⟨a + 1, by omega, by go_num, by rw [HV.out]; go_num, Lib.hid (bnext HB.out (al1 _ _))⟩
          case measure => first | (simp [intOf]; omega) | simp [intOf]
        · have HV := Lib.hid (show needN n0 (m.code.take (a + 1)) = cur by rw [HN, if_pos (.inr g1)]; omega)
          have hxa := hxc (.inr g1)
          subst g1
          clear HN hxc h1 h2
          go_wp2
          go_roundw
          case rel => exact ⟨a + 1, by omega, by go_num, by rw [HV.out]; go_num, Lib.hid (bnext HB.out (al1 _ _))⟩
          case measure => first | (simp [intOf]; omega) | simp [intOf]
        · have HV := Lib.hid (show needN n0 (m.code.take (a + 1)) = xa + 1 by rw [HN, if_pos (.inr g1)]; omega)
          have hxa := hxc (.inr g1)
          subst g1
          clear HN hxc h1 h2
          go_wp2
          go_roundw
          case rel => exact ⟨a + 1, by omega, by go_num, by rw [HV.out]; go_num, Lib.hid (bnext HB.out (al1 _ _))⟩
          case measure => first | (simp [intOf]; omega) | simp [intOf]
        · have HV := Lib.hid (show needN n0 (m.code.take (a + 1)) = cur by rw [HN, if_neg (by omega)])
          have e4 : (xo == 4) = false := by simpa using g1
          have e5 : (xo == 5) = false := by simpa using g2
          clear HN hxc h1 h2 g1 g2
          go_wp2
          go_roundw
          case rel => exact ⟨a + 1, by omega, by go_num, by rw [HV.out], Lib.hid (bnext HB.out (al1 _ _))⟩
          case measure => first | (simp [intOf]; omega) | simp [intOf]
      · obtain rfl : a = i := by omega
        rw [List.take_of_length_le (by rw [HL.out]; exact Nat.le_refl _)]
        go_wp2
        go_ret
        exact ⟨rfl, bnext HB0.out HB.out⟩

theorem handF_span {n : Nat} {pre : List HandD} {x : HandD} (h : spanB n x = false) : handF n pre x = 2 := by unfold handF; rw [if_pos h]
theorem handF_name {n : Nat} {pre : List HandD} {x : HandD} (h : spanB n x = true) (h2 : nameB x.cl = false) : handF n pre x = 1 := by unfold handF; rw [h, if_neg (by simp), if_pos h2]
theorem handF_none {n : Nat} {pre : List HandD} {x : HandD} (h : spanB n x = true) (h2 : nameB x.cl = true) : handF n pre x = 0 := by unfold handF; rw [h, h2, if_neg (by simp), if_neg (by simp)]
set_option maxRecDepth 20000 in
set_option maxHeartbeats 4000000 in
theorem hands_any (l : List HandD) (A : Option Addr) (n c m : Nat) (w : World) (R : HandRow w A n c l) (hn : n ≤ 140737488351232) (hs : ∀ x ∈ l, x.cl.length ≤ 140737488351232) (hm : m ≤ 140737488351232) :
    Calls Tryd.prog 42 #[.slice A n c, .int .i64 (m : Int)] w fun e w' => e = .returned (errV (handsF l m)) ∧ Below w.heap.size w w' := by
  have hl : l.length = n := R.1
  have HL := Lib.hid hl
  have HR := Lib.hid R
  have HS := Lib.hid hs
  clear hl R hs
  go_enter Tryd.func42, Tryd.ntmps42
  go_wp2_with fail
  go_loopw [6, 9] (fun _ i wr => ∃ j : Nat, j ≤ n ∧ i = .int .i64 j ∧ Hid (∀ (i : Nat) (hi : i < l.length), i < j → handF m (l.take i) l[i] = 0) ∧ Hid (Below w.heap.size w wr)) (fun _ i _ => n - (intOf i).toNat)
  case atStart => exact ⟨0, Nat.zero_le _, rfl, Lib.hid (fun i hi h => by omega), Lib.hid (Below.refl _ _)⟩
  case round =>
    obtain ⟨j, hj, rfl, HG, HB⟩ := hrel
    by_cases hlt : j < n
    · obtain ⟨b1, o1, rfl, hb1, hx1⟩ := (HR.out.below HB.out).at_ hlt
      have hj1 : j < l.length := by rw [HL.out]; exact hlt
      have hsz : (bs l[j].cl).size ≤ maxLen := by have := HS.out l[j] (List.getElem_mem _); rw [bs_size]; unfold maxLen; omega
      have HZ := Lib.hid (show handF m (l.take j) l[j] = 0 → _ from fun h => hand_next HG.out hj1 h)
      have HF := Lib.hid (show handF m (l.take j) l[j] ≠ 0 → _ from fun h => handsF_at hj1 HG.out h)
      generalize l.take j = pre at *
      generalize l[j] = x at *
      cases hsp : spanB m x with
      | false =>
        have HC := Lib.hid (HF.out (by rw [handF_span hsp]; decide))
        rw [handF_span hsp] at HC
        have hcase := span_cases hsp
        clear HZ HF hsp
        obtain ⟨xf, xt, xp, xc⟩ := x
        obtain ⟨c0, c1, c2, c3⟩ := hx1
        simp only at hcase
        rcases hcase with h1 | ⟨h1, h2⟩ | ⟨h1, h2, h3⟩ | ⟨h1, h2, h3, h4⟩ | ⟨h1, h2, h3, h4, h5⟩
        all_goals
          go_wp2_with fail
          go_ret
          exact ⟨ret_err (by rw [HC.out]; rfl), bnext HB.out (al1 _ _)⟩
      | true =>
        have hcase := span_true hsp
        cases hnb : nameB x.cl with
        | false =>
          have HC := Lib.hid (HF.out (by rw [handF_name hsp hnb]; decide))
          rw [handF_name hsp hnb] at HC
          have HN := fun w => check_no (bs x.cl) w hnb hsz
          clear HZ HF hsp hnb hsz
          obtain ⟨xf, xt, xp, xc⟩ := x
          obtain ⟨c0, c1, c2, c3⟩ := hx1
          simp only at hcase HN
          obtain ⟨h1, h2, h3, h4, h5⟩ := hcase
          replace HN := Lib.hid HN
          go_wp2_with (first
            | (go_at_call 11; (with_reducible refine (HN.out _).mono ?_); rintro e w1 ⟨rfl, rfl⟩))
          go_ret
          exact ⟨ret_err (by rw [HC.out]; rfl), bnext HB.out (al1 _ _)⟩
        | true =>
          have HC := Lib.hid (HZ.out (handF_none hsp hnb))
          have HN := fun w => check_yes (bs x.cl) w hnb hsz
          clear HZ HF hsp hnb hsz
          obtain ⟨xf, xt, xp, xc⟩ := x
          obtain ⟨c0, c1, c2, c3⟩ := hx1
          simp only at hcase HN
          obtain ⟨h1, h2, h3, h4, h5⟩ := hcase
          replace HN := Lib.hid HN
          have HB1 := Lib.hid (bnext HB.out (al1 wr (.cells #[.int .i64 xf, .int .i64 xt, .int .i64 xp, .string (bs xc)] 77)))
          go_wp2_with (first
            | (go_at_call 11; (with_reducible refine (HN.out _).mono ?_); rintro e w1 ⟨rfl, rfl⟩))
          go_roundw
          case rel => exact ⟨j + 1, by omega, by go_num, HC, HB1⟩
          case measure => first | (simp [intOf]; omega) | simp [intOf]
    · obtain rfl : j = n := by omega
      have HE := Lib.hid (handsF_end (n := m) (l := l) (fun i hi h => HG.out i hi (by rw [← HL.out]; exact h)))
      rw [HL.out] at HE
      by_cases h8 : 8 < j
      all_goals
        have HH := Lib.hid HE.out
        first
        | rw [if_pos h8] at HH
        | rw [if_neg h8] at HH
        go_wp2
        go_ret
        exact ⟨ret_err (by rw [HH.out]; rfl), HB.out⟩
end Go.Proofs.YtkabkpkfglngnaaDoor
