/- The contract of the reference's methodFault. -/
import Derived.Test.YtkolpbjpgobkcaaGreatDoorGE
namespace Go.Proofs.YtkolpbjpgobkcaaGreatDoor
open Go.ChangeShapes Go.WideShapes Go.ChangeAt Go.RowKit
set_option linter.unusedVariables false
attribute [local go_sem] eqGuard_errV_nil eqGuard_errV_iface eql_errV_nil neq_errV_nil eql_errV_form

/-- The value of a method: its texts and numbers, and the slices of its lists. -/
def methV (m : MethD) (A : Option Addr) (i j : Nat) (B : Option Addr) (k l : Nat) : Value := .agg #[.string (bs m.nm), .string (bs m.ty), .bool m.st, .bool m.ab, .bool m.pr, .int .i64 m.lo, .slice A i j, .slice B k l]
/-- A method in a block of its own. -/
def MBox (w : World) (b : Nat) (m : MethD) (A : Option Addr) (i j : Nat) (B : Option Addr) (k l : Nat) : Prop :=
  b < w.heap.size ∧ w.cell? ⟨b, 0, none⟩ = some (.string (bs m.nm)) ∧ w.cell? ⟨b, 1, none⟩ = some (.string (bs m.ty)) ∧ w.cell? ⟨b, 2, none⟩ = some (.bool m.st) ∧ w.cell? ⟨b, 3, none⟩ = some (.bool m.ab) ∧
  w.cell? ⟨b, 4, none⟩ = some (.bool m.pr) ∧ w.cell? ⟨b, 5, none⟩ = some (.int .i64 m.lo) ∧ w.cell? ⟨b, 6, none⟩ = some (.slice A i j) ∧ w.cell? ⟨b, 7, none⟩ = some (.slice B k l)
theorem MBox.below {w w' : World} {b : Nat} {m : MethD} {A : Option Addr} {i j : Nat} {B : Option Addr} {k l : Nat} (h : MBox w b m A i j B k l) (hb : Below w.heap.size w w') : MBox w' b m A i j B k l := by
  obtain ⟨h0, h1, h2, h3, h4, h5, h6, h7, h8⟩ := h
  exact ⟨Nat.lt_of_lt_of_le h0 hb.size, (hb.cell (by exact h0)).trans h1, (hb.cell (by exact h0)).trans h2, (hb.cell (by exact h0)).trans h3, (hb.cell (by exact h0)).trans h4, (hb.cell (by exact h0)).trans h5, (hb.cell (by exact h0)).trans h6, (hb.cell (by exact h0)).trans h7, (hb.cell (by exact h0)).trans h8⟩
theorem MBox.drewN {w : World} {b : Nat} {m : MethD} {A : Option Addr} {i j : Nat} {B : Option Addr} {k l : Nat} (h : MBox w b m A i j B k l) (q : Nat) : MBox (w.drewN q) b m A i j B k l := h
theorem mbox_at (w : World) (m : MethD) (A : Option Addr) (i j : Nat) (B : Option Addr) (k l : Nat) (t : TypeId) (f : Nat × Nat) :
    MBox (w.alloc (.cells #[.string (bs m.nm), .string (bs m.ty), .bool m.st, .bool m.ab, .bool m.pr, .int .i64 m.lo, .slice A i j, .slice B k l] t f)) w.heap.size m A i j B k l :=
  ⟨by simp, World.cell?_alloc_mark .., World.cell?_alloc_mark .., World.cell?_alloc_mark .., World.cell?_alloc_mark .., World.cell?_alloc_mark .., World.cell?_alloc_mark .., World.cell?_alloc_mark .., World.cell?_alloc_mark ..⟩
theorem mbox_new {w w' : World} {o : Obj} (m : MethD) (A : Option Addr) (i j : Nat) (B : Option Addr) (k l : Nat) (t : TypeId) (f : Nat × Nat) (ho : o = .cells #[.string (bs m.nm), .string (bs m.ty), .bool m.st, .bool m.ab, .bool m.pr, .int .i64 m.lo, .slice A i j, .slice B k l] t f)
    (hb : Below (w.alloc o).heap.size (w.alloc o) w') : MBox w' w.heap.size m A i j B k l ∧ Below w.heap.size w w' := by
  subst ho
  exact ⟨(mbox_at w m A i j B k l t f).below hb, bnext (al1 _ _) hb⟩

theorem argsN_methP (l : List UInt8) : (methP l).1.length = argsN l := by
  unfold argsN
  cases h : methodB l with
  | none => rw [methP_none h]; rfl
  | some p => obtain ⟨a, g⟩ := p; rw [methP_some h]
theorem methodOf_row {w w' : World} {l : List UInt8} {e : Ending} (h : MethodSays w l (.bool (methS l)) e w') : ∃ A c t, e = .returned (.tuple #[.slice A (argsN l) c, .string t, .bool (methodB l).isSome]) ∧ Below w.heap.size w w' := by
  obtain ⟨hb, v, rfl, hv⟩ := h
  obtain ⟨A, c, rfl⟩ := own_form hv
  exact ⟨A, c, _, by rw [argsN_methP]; rfl, hb⟩

section
variable {pre : List MethD} {m : MethD}
theorem mtdF_bad (h : (nameB m.nm && (methodB m.ty).isSome) = false) : mtdF pre m = 1 := by unfold mtdF; rw [if_pos h]
theorem mtdF_twice (h : (nameB m.nm && (methodB m.ty).isSome) = true) (ha : pre.any (fun y => y.nm == m.nm && y.ty == m.ty) = true) : mtdF pre m = 5 := by unfold mtdF; rw [h, if_neg (by simp), if_pos ha]
theorem mtdF_range (h : (nameB m.nm && (methodB m.ty).isSome) = true) (ha : pre.any (fun y => y.nm == m.nm && y.ty == m.ty) = false) (hr : m.lo < 0 ∨ 8 < m.lo) : mtdF pre m = 2 := by
  unfold mtdF; rw [h, ha, if_neg (by simp), if_neg (by simp), if_pos hr]
theorem mtdF_rest (h : (nameB m.nm && (methodB m.ty).isSome) = true) (ha : pre.any (fun y => y.nm == m.nm && y.ty == m.ty) = false) (hr : ¬ (m.lo < 0 ∨ 8 < m.lo)) : mtdF pre m = if m.ab = true then bareF m else bodyF m := by
  unfold mtdF; rw [h, ha, if_neg (by simp), if_neg (by simp), if_neg hr]
theorem bodyF_code (h : flowF m.code ≠ 0) : bodyF m = flowF m.code := by unfold bodyF; rw [if_pos h]
theorem bodyF_few (h : flowF m.code = 0) (hw : m.lo < (wantsN m : Int)) : bodyF m = 2 := by unfold bodyF; rw [h, if_neg (by simp), if_pos hw]
theorem bodyF_local (h : flowF m.code = 0) (hw : ¬ m.lo < (wantsN m : Int)) (hl : m.code.any (localB m.lo) = true) : bodyF m = 2 := by unfold bodyF; rw [h, if_neg (by simp), if_neg hw, if_pos hl]
theorem bodyF_hands (h : flowF m.code = 0) (hw : ¬ m.lo < (wantsN m : Int)) (hl : m.code.any (localB m.lo) = false) : bodyF m = handsF m.hs m.code.length := by unfold bodyF; rw [h, if_neg (by simp), if_neg hw, hl, if_neg (by simp)]
end
/-- The first part of what methodFault does: the name, the type, the methods ahead. -/
def Fine (pre : List MethD) (m : MethD) : Prop := (nameB m.nm && (methodB m.ty).isSome) = true ∧ pre.any (fun y => y.nm == m.nm && y.ty == m.ty) = false

set_option maxRecDepth 20000 in
set_option maxHeartbeats 4000000 in
theorem rmeth_bad (m : MethD) (pre : List MethD) (A : Option Addr) (i j : Nat) (B : Option Addr) (k l : Nat) (C : Option Addr) (p q : Nat) (w : World) (hm : m.upto 1048576) (h : (nameB m.nm && (methodB m.ty).isSome) = false) :
    Calls Tryz.prog 40 #[methV m A i j B k l, .slice C p q] w fun e w' => e = .returned (.int .i64 (mtdF pre m : Int)) ∧ Below w.heap.size w w' := by
  have HV := Lib.hid (mtdF_bad (pre := pre) h)
  have HM := Lib.hid (fun w => (methodOf_any (bs m.ty) w (by rw [bs_size]; exact hm.2.1)).mono fun e w' h => methodOf_row h)
  have HN := fun w => isName_any (bs m.nm) w (by rw [bs_size]; have := hm.1; unfold maxLen; omega)
  simp only [bs_list] at HN
  rw [show (bs m.ty).data.toList = m.ty from rfl] at HM
  have hcase : nameB m.nm = false ∨ (nameB m.nm = true ∧ (methodB m.ty).isSome = false) := by
    cases h1 : nameB m.nm with
    | false => exact .inl rfl
    | true => rw [h1, Bool.true_and] at h; exact .inr ⟨rfl, h⟩
  clear hm h
  unfold methV
  rcases hcase with h1 | ⟨h1, h2⟩
  · rw [h1] at HN
    replace HN := Lib.hid HN
    clear h1
    go_enter Tryz.func40, Tryz.ntmps40
    go_wp2_with (first
      | (go_at_call 50; (with_reducible refine (HM.out _).mono ?_); rintro e w1 ⟨A1, c1, t1, rfl, hb⟩
         have BX := mbox_new m A i j B k l _ _ rfl hb
         obtain ⟨q0, q1, q2, q3, q4, q5, q6, q7, q8⟩ := BX.1
         have HB1 := Lib.hid BX.2
         clear BX hb)
      | (go_at_call 38; (with_reducible refine (HN.out _).mono ?_); rintro e w2 ⟨rfl, rfl⟩))
    go_ret
    exact ⟨ret_int (by rw [HV.out]; rfl), HB1.out⟩
  · rw [h1] at HN
    rw [h2] at HM
    replace HN := Lib.hid HN
    clear h1 h2
    go_enter Tryz.func40, Tryz.ntmps40
    go_wp2_with (first
      | (go_at_call 50; (with_reducible refine (HM.out _).mono ?_); rintro e w1 ⟨A1, c1, t1, rfl, hb⟩
         have BX := mbox_new m A i j B k l _ _ rfl hb
         obtain ⟨q0, q1, q2, q3, q4, q5, q6, q7, q8⟩ := BX.1
         have HB1 := Lib.hid BX.2
         clear BX hb)
      | (go_at_call 38; (with_reducible refine (HN.out _).mono ?_); rintro e w2 ⟨rfl, rfl⟩))
    go_ret
    exact ⟨ret_int (by rw [HV.out]; rfl), HB1.out⟩

theorem below_drawn {w a : World} {B : Nat} (h : Below B w a) (n : Nat) : Below B w (a.drewN n) := ⟨h.os, h.tape, h.output, h.size, h.block⟩
theorem twice_next {pre : List MethD} {m : MethD} {j : Nat} (hj : j < pre.length) (h : (pre.take j).any (fun y => y.nm == m.nm && y.ty == m.ty) = false) (hn : (pre[j].nm == m.nm && pre[j].ty == m.ty) = false) : (pre.take (j + 1)).any (fun y => y.nm == m.nm && y.ty == m.ty) = false :=
  any_take (p := fun y => y.nm == m.nm && y.ty == m.ty) hj h hn
theorem twice_at {pre : List MethD} {m : MethD} {j : Nat} (hj : j < pre.length) (h1 : pre[j].nm = m.nm) (h2 : pre[j].ty = m.ty) : pre.any (fun y => y.nm == m.nm && y.ty == m.ty) = true :=
  any_at (p := fun y => y.nm == m.nm && y.ty == m.ty) hj (by simp [h1, h2])
theorem wants_static {m : MethD} (h : m.st = true) : wantsN m = argsN m.ty := by unfold wantsN; rw [h]; rfl
theorem wants_bound {m : MethD} (h : m.st = false) : wantsN m = argsN m.ty + 1 := by unfold wantsN; rw [h]; rfl
theorem argsN_le (l : List UInt8) : argsN l ≤ 5 := by
  unfold argsN
  cases h : methodB l with
  | none => exact Nat.zero_le _
  | some p =>
    obtain ⟨a, g⟩ := p
    cases l with
    | nil => cases h
    | cons c t =>
      unfold methodB at h
      repeat' (split at h)
      all_goals first
        | (cases h; done)
        | (rename_i h5
           simp only [Option.some.injEq, Prod.mk.injEq] at h
           obtain ⟨rfl, _⟩ := h
           exact h5.2.1)
set_option maxRecDepth 20000 in
set_option maxHeartbeats 8000000 in
theorem rmeth_rest (m : MethD) (pre : List MethD) (A : Option Addr) (i j : Nat) (B : Option Addr) (k l : Nat) (C : Option Addr) (p q : Nat) (w : World) (RC : InsRow w A i j m.code) (RH : HandRow w B k l m.hs) (RM : MethRow w C p q pre) (hm : m.upto 1048576) (hw : m.wf) (hp : p ≤ 1048576)
    (h : (nameB m.nm && (methodB m.ty).isSome) = true) :
    Calls Tryz.prog 40 #[methV m A i j B k l, .slice C p q] w fun e w' => e = .returned (.int .i64 (mtdF pre m : Int)) ∧ Below w.heap.size w w' := by
  have HM := Lib.hid (fun w => (methodOf_any (bs m.ty) w (by rw [bs_size]; exact hm.2.1)).mono fun e w' h => methodOf_row h)
  have HN := fun w => isName_any (bs m.nm) w (by rw [bs_size]; have := hm.1; unfold maxLen; omega)
  simp only [bs_list] at HN
  rw [show (bs m.ty).data.toList = m.ty from rfl] at HM
  have hh := h
  rw [Bool.and_eq_true] at hh
  rw [hh.1] at HN
  rw [hh.2] at HM
  replace HN := Lib.hid HN
  have hlp : pre.length = p := RM.1
  have HLP := Lib.hid hlp
  have H0 := Lib.hid h
  have hci : m.code.length = i := RC.1
  have hhk : m.hs.length = k := RH.1
  have HCI := Lib.hid hci
  have HHK := Lib.hid hhk
  have hi2 : i ≤ 1048576 := by have := hm.2.2.1.2; omega
  have hk2 : k ≤ 1048576 := by have := hm.2.2.2.2; omega
  have ha5 := argsN_le m.ty
  have HCF := Lib.hid (fun W R => rfault_any m.code A i j W R hm.2.2.1.1 hi2)
  have HHF := Lib.hid (fun W R => rhands_any m.hs B k l i W R (by omega) hm.2.2.2.1 (by omega))
  have HRC := Lib.hid RC
  have HRH := Lib.hid RH
  have HRM := Lib.hid RM
  clear hh h hlp hci hhk RC RH RM hm hw
  unfold methV
  go_enter Tryz.func40, Tryz.ntmps40
  go_wp2_with (first
    | (go_at_call 50; (with_reducible refine (HM.out _).mono ?_); rintro e w1 ⟨A1, c1, t1, rfl, hb⟩
       have BX := mbox_new m A i j B k l _ _ rfl hb
       have HX := Lib.hid BX.1
       obtain ⟨q0, q1, q2, q3, q4, q5, q6, q7, q8⟩ := BX.1
       have HB1 := Lib.hid BX.2
       clear BX hb)
    | (go_at_call 38; (with_reducible refine (HN.out _).mono ?_); rintro e w2 ⟨rfl, rfl⟩))
  go_loopw [8] (fun i wr => ∃ a b : Nat, a ≤ p ∧ i = .int .i64 a ∧ Hid ((pre.take a).any (fun y => y.nm == m.nm && y.ty == m.ty) = false) ∧ wr = w1.drewN b) (fun i _ => p - (intOf i).toNat)
  case atStart => exact ⟨0, 0, Nat.zero_le _, rfl, Lib.hid rfl, rfl⟩
  case round =>
    obtain ⟨a, b, ha, rfl, HT, rfl⟩ := hrel
    by_cases hlt : a < p
    · obtain ⟨b1, o1, rfl, hb1, hx1⟩ := (HRM.out.below HB1.out).at_ hlt
      have ha1 : a < pre.length := by rw [HLP.out]; exact hlt
      have HTN := Lib.hid (show (pre[a].nm == m.nm && pre[a].ty == m.ty) = false → _ from fun h => twice_next ha1 HT.out h)
      have HTA := Lib.hid (fun h1 h2 => twice_at (m := m) ha1 h1 h2)
      generalize pre[a] = y at *
      obtain ⟨c0, c1', _⟩ := hx1
      by_cases h1 : y.nm = m.nm
      · by_cases h2 : y.ty = m.ty
        · have HV := Lib.hid (mtdF_twice H0.out (HTA.out h1 h2))
          rw [h1] at c0
          rw [h2] at c1'
          clear h1 h2 HTN HTA
          go_wp2
          go_quiet (fail)
          go_wp2
          go_ret
          exact ⟨ret_int (by rw [HV.out]; rfl), below_drawn (below_drawn HB1.out _) _⟩
        · have HT2 := Lib.hid (HTN.out (by simp [h2]))
          have hne := str_ne h2
          rw [h1] at c0
          clear h1 h2 HTN HTA
          go_wp2
          go_quiet (fail)
          go_wp2
          go_roundw
          case rel => exact ⟨a + 1, _, by omega, by go_num, HT2, rfl⟩
          case measure => first | (simp [intOf]; omega) | simp [intOf]
      · have HT2 := Lib.hid (HTN.out (by simp [h1]))
        have hne := str_ne h1
        clear h1 HTN HTA
        go_wp2
        go_quiet (fail)
        go_wp2
        go_roundw
        case rel => exact ⟨a + 1, _, by omega, by go_num, HT2, rfl⟩
        case measure => first | (simp [intOf]; omega) | simp [intOf]
    · obtain rfl : a = p := by omega
      have hno := HT.out
      rw [List.take_of_length_le (by rw [HLP.out]; exact Nat.le_refl _)] at hno
      have HO := Lib.hid hno
      clear hno HT hlt ha
      have hr0 : m.lo < 0 ∨ 8 < m.lo ∨ (¬ m.lo < 0 ∧ ¬ 8 < m.lo) := by omega
      have HR2 := Lib.hid (fun h => mtdF_range H0.out HO.out h)
      have HRe := Lib.hid (fun h => mtdF_rest H0.out HO.out h)
      rcases hr0 with hr | hr | ⟨hr1, hr2⟩
      · have HV := Lib.hid (HR2.out (.inl hr))
        go_wp2_with fail
        go_ret
        exact ⟨ret_int (by rw [HV.out]; rfl), below_drawn HB1.out _⟩
      · have HV := Lib.hid (HR2.out (.inr hr))
        go_wp2_with fail
        go_ret
        exact ⟨ret_int (by rw [HV.out]; rfl), below_drawn HB1.out _⟩
      have HV0 := HRe.out (by omega)
      clear HR2 HRe
      cases hab : m.ab with
      | true =>
        rw [hab, if_pos rfl] at HV0
        rw [hab] at q4
        have hc : (m.st = true ∧ bareF m = 8) ∨ (m.st = false ∧ m.pr = true ∧ bareF m = 8) ∨ (m.st = false ∧ m.pr = false ∧ 0 < i ∧ bareF m = 8) ∨ (m.st = false ∧ m.pr = false ∧ i = 0 ∧ 0 < k ∧ bareF m = 8) ∨ (m.st = false ∧ m.pr = false ∧ i = 0 ∧ k = 0 ∧ bareF m = 0) := by
          unfold bareF
          rw [HCI.out, HHK.out]
          cases m.st with
          | true => exact .inl ⟨rfl, by simp⟩
          | false =>
            cases m.pr with
            | true => exact .inr (.inl ⟨rfl, rfl, by simp⟩)
            | false =>
              rcases Nat.eq_zero_or_pos i with h | h
              · rcases Nat.eq_zero_or_pos k with h' | h'
                · exact .inr (.inr (.inr (.inr ⟨rfl, rfl, h, h', by simp [h, h']⟩)))
                · exact .inr (.inr (.inr (.inl ⟨rfl, rfl, h, h', by have : k ≠ 0 := by omega
                                                                    simp [h, this]⟩)))
              · exact .inr (.inr (.inl ⟨rfl, rfl, h, by have : i ≠ 0 := by omega
                                                        simp [this]⟩))
        rcases hc with ⟨h1, hv⟩ | ⟨h1, h2, hv⟩ | ⟨h1, h2, h3, hv⟩ | ⟨h1, h2, h3, h4, hv⟩ | ⟨h1, h2, h3, h4, hv⟩
        all_goals
          rw [hv] at HV0
          have HV := Lib.hid HV0
          rw [h1] at q3
          try rw [h2] at q5
          clear hv HV0
          go_wp2_with fail
          go_ret
          exact ⟨ret_int (by rw [HV.out]; rfl), below_drawn HB1.out _⟩
      | false =>
        rw [hab] at HV0
        rw [if_neg (by simp)] at HV0
        rw [hab] at q4
        by_cases hfl : flowF m.code = 0
        · have HCF0 := Lib.hid (fun W R => (HCF.out W R).mono fun e w' h => show e = .returned (.int .i64 0) ∧ Below W.heap.size W w' by rw [hfl] at h; exact h)
          have HFew := Lib.hid (fun h => bodyF_few hfl h)
          have HLoc := Lib.hid (fun h1 h2 => bodyF_local hfl h1 h2)
          have HHan := Lib.hid (fun h1 h2 => bodyF_hands hfl h1 h2)
          have HV := Lib.hid HV0
          clear HV0 hfl
          have hst : (m.st = true ∧ wantsN m = argsN m.ty) ∨ (m.st = false ∧ wantsN m = argsN m.ty + 1) := by
            cases h : m.st with
            | true => exact .inl ⟨rfl, wants_static h⟩
            | false => exact .inr ⟨rfl, wants_bound h⟩
          have hwr : IntKind.i64.wrap ((argsN m.ty : Int) + 1) = (argsN m.ty : Int) + 1 := by rw [IntKind.wrap_i64]; omega
          rcases hst with ⟨h1, h2⟩ | ⟨h1, h2⟩
          all_goals
            rw [h2] at HFew HLoc HHan
            by_cases hwt : m.lo < (wantsN m : Int)
            · rw [h2] at hwt
              have HV2 := Lib.hid (HFew.out hwt)
              go_wp2_with (first
                | (go_at_call 51; (with_reducible refine (HCF0.out _ ((HRC.out.below HB1.out).drewN b)).mono ?_); rintro e w3 ⟨rfl, hb⟩
                   have HB3 := Lib.hid (bnext (below_drawn HB1.out b) hb)
                   have BX := (HX.out.drewN b).below hb
                   rw [MBox, h1, hab] at BX
                   obtain ⟨r0, r1, r2, r3, r4, r5, r6, r7, r8⟩ := BX
                   clear hb))
              go_ret
              exact ⟨ret_int (by rw [HV.out, HV2.out]; rfl), HB3.out⟩
            · rw [h2] at hwt
              have HLo2 := Lib.hid (HLoc.out hwt)
              have HHa2 := Lib.hid (HHan.out hwt)
              go_wp2_with (first
                | (go_at_call 51; (with_reducible refine (HCF0.out _ ((HRC.out.below HB1.out).drewN b)).mono ?_); rintro e w3 ⟨rfl, hb⟩
                   have HB3 := Lib.hid (bnext (below_drawn HB1.out b) hb)
                   have BX := (HX.out.drewN b).below hb
                   have HX3 := Lib.hid BX
                   rw [MBox, h1, hab] at BX
                   obtain ⟨r0, r1, r2, r3, r4, r5, r6, r7, r8⟩ := BX
                   clear hb))
              go_loopw [11] (fun v wr => ∃ a b : Nat, a ≤ i ∧ v = .int .i64 a ∧ Hid ((m.code.take a).any (localB m.lo) = false) ∧ wr = w3.drewN b) (fun v _ => i - (intOf v).toNat)
              case atStart => exact ⟨0, 0, Nat.zero_le _, rfl, Lib.hid rfl, rfl⟩
              case round =>
                obtain ⟨a, b', ha, rfl, HT, rfl⟩ := hrel
                by_cases hlt : a < i
                · obtain ⟨b1, o1, rfl, hb1, hx1⟩ := (HRC.out.below HB3.out).at_ hlt
                  have ha1 : a < m.code.length := by rw [HCI.out]; exact hlt
                  have HTN := Lib.hid (show localB m.lo m.code[a] = false → _ from fun h => any_take (p := localB m.lo) ha1 HT.out h)
                  have HTA := Lib.hid (show localB m.lo m.code[a] = true → _ from fun h => any_at (p := localB m.lo) ha1 h)
                  unfold localB at HTN HTA
                  generalize m.code[a] = x at *
                  obtain ⟨xo, xa, xb, xt, xc, xn⟩ := x
                  obtain ⟨c0, c1', c2, c3, c4, c5⟩ := hx1
                  simp only at HTN HTA
                  have hc : (xo = 4 ∧ m.lo ≤ xa) ∨ (xo = 4 ∧ ¬ m.lo ≤ xa) ∨ (xo = 5 ∧ m.lo ≤ xa) ∨ (xo = 5 ∧ ¬ m.lo ≤ xa) ∨ (¬ xo = 4 ∧ ¬ xo = 5) := by omega
                  rcases hc with ⟨g1, g2⟩ | ⟨g1, g2⟩ | ⟨g1, g2⟩ | ⟨g1, g2⟩ | ⟨g1, g2⟩
                  · have HVb := Lib.hid (HLo2.out (HTA.out (by simp [g1, g2])))
                    subst g1
                    clear HTN HTA
                    go_wp2
                    go_quiet (fail)
                    go_wp2
                    go_ret
                    exact ⟨ret_int (by rw [HV.out, HVb.out]; rfl), below_drawn (below_drawn HB3.out _) _⟩
                  · have HT2 := Lib.hid (HTN.out (by simp [g2]))
                    subst g1
                    clear HTN HTA
                    go_wp2
                    go_quiet (fail)
                    go_wp2
                    go_roundw
                    case rel => exact ⟨a + 1, _, by omega, by go_num, HT2, rfl⟩
                    case measure => first | (simp [intOf]; omega) | simp [intOf]
                  · have HVb := Lib.hid (HLo2.out (HTA.out (by simp [g1, g2])))
                    subst g1
                    clear HTN HTA
                    go_wp2
                    go_quiet (fail)
                    go_wp2
                    go_ret
                    exact ⟨ret_int (by rw [HV.out, HVb.out]; rfl), below_drawn (below_drawn HB3.out _) _⟩
                  · have HT2 := Lib.hid (HTN.out (by simp [g2]))
                    subst g1
                    clear HTN HTA
                    go_wp2
                    go_quiet (fail)
                    go_wp2
                    go_roundw
                    case rel => exact ⟨a + 1, _, by omega, by go_num, HT2, rfl⟩
                    case measure => first | (simp [intOf]; omega) | simp [intOf]
                  · have HT2 := Lib.hid (HTN.out (by simp [g1, g2]))
                    have e4 : (xo == 4) = false := by simpa using g1
                    have e5 : (xo == 5) = false := by simpa using g2
                    clear HTN HTA g1 g2
                    go_wp2
                    go_quiet (fail)
                    go_wp2
                    go_roundw
                    case rel => exact ⟨a + 1, _, by omega, by go_num, HT2, rfl⟩
                    case measure => first | (simp [intOf]; omega) | simp [intOf]
                · obtain rfl : a = i := by omega
                  have hno := HT.out
                  rw [List.take_of_length_le (by rw [HCI.out]; exact Nat.le_refl _)] at hno
                  have HVb := HHa2.out hno
                  rw [HCI.out] at HVb
                  replace HVb := Lib.hid HVb
                  go_wp2_with (first
                    | (go_at_call 52; (with_reducible refine (HHF.out _ ((HRH.out.below HB3.out).below (below_drawn (Below.refl _ _) b'))).mono ?_); rintro e w4 ⟨rfl, hb⟩
                       have HB4 := Lib.hid (bnext (below_drawn HB3.out b') hb)
                       clear hb))
                  go_ret
                  exact ⟨ret_int (by rw [HV.out, HVb.out]), HB4.out⟩
        · have HV := Lib.hid (HV0.trans (bodyF_code hfl))
          have hne : ((flowF m.code : Int) != 0) = true := by rw [bne_iff_ne]; omega
          clear HV0 hfl
          generalize flowF m.code = ff at *
          go_wp2_with (first
            | (go_at_call 51; (with_reducible refine (HCF.out _ ((HRC.out.below HB1.out).drewN b)).mono ?_); rintro e w3 ⟨rfl, hb⟩
               have HB3 := Lib.hid (bnext (below_drawn HB1.out b) hb)
               clear hb))
          go_ret
          exact ⟨ret_int (by rw [HV.out]), HB3.out⟩
theorem rmeth_any (m : MethD) (pre : List MethD) (A : Option Addr) (i j : Nat) (B : Option Addr) (k l : Nat) (C : Option Addr) (p q : Nat) (w : World) (RC : InsRow w A i j m.code) (RH : HandRow w B k l m.hs) (RM : MethRow w C p q pre) (hm : m.upto 1048576) (hw : m.wf) (hp : p ≤ 1048576) :
    Calls Tryz.prog 40 #[methV m A i j B k l, .slice C p q] w fun e w' => e = .returned (.int .i64 (mtdF pre m : Int)) ∧ Below w.heap.size w w' := by
  cases h : (nameB m.nm && (methodB m.ty).isSome) with
  | false => exact rmeth_bad m pre A i j B k l C p q w hm h
  | true => exact rmeth_rest m pre A i j B k l C p q w RC RH RM hm hw hp h
end Go.Proofs.YtkolpbjpgobkcaaGreatDoor
