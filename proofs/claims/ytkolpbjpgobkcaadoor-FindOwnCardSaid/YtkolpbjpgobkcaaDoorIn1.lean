/- The contracts of package ins: has, isTarget, hasOnly, isInRange, isTyped, isNamed: what each returns, for every instruction. -/
import Derived.Test.YtkolpbjpgobkcaaDoorGC
namespace Go.Proofs.YtkolpbjpgobkcaaDoor
open Go.ChangeShapes Go.WideShapes Go.ChangeAt Go.RowKit
set_option linter.unusedVariables false
attribute [local go_sem] eqGuard_errV_nil eqGuard_errV_iface eql_errV_nil neq_errV_nil eql_errV_form

theorem bs_nil (l : List UInt8) : (bs l).data = #[] ↔ l = [] := by
  constructor
  · intro h
    have := congrArg Array.toList h
    exact this
  · rintro rfl; rfl
theorem cat_size (c : UInt8) (l : List UInt8) : ((⟨#[c]⟩ : ByteArray) ++ bs l).size = 1 + l.length := by rw [ByteArray.size_append]; rfl
theorem cat_list (c : UInt8) (l : List UInt8) : ((⟨#[c]⟩ : ByteArray) ++ bs l).data.toList = c :: l := by rw [ByteArray.data_append, Array.toList_append]; rfl
theorem and_bit : ∀ f : Fin 32, ∀ j : Fin 5, (bits .and .u8 (f.val : Int) ((2 ^ j.val : Nat) : Int) != 0) = f.val.testBit j.val := by decide
theorem has_any (f : Nat) (hf : f < 32) (j : Nat) (hj : j < 5) (c : Int) (hc : c = ((2 ^ j : Nat) : Int)) (w : World) :
    Calls Tryd.prog 88 #[.int .u8 (f : Int), .int .u8 c] w fun e w' => e = .returned (.bool (f.testBit j)) ∧ w = w' := by
  have H := Lib.hid (and_bit ⟨f, hf⟩ ⟨j, hj⟩)
  subst hc
  go_enter Tryd.func88, Tryd.ntmps88
  go_wp2
  go_ret
  exact ⟨ret_bool H.out, rfl⟩
theorem target_any (n : Int) (w : World) : Calls Tryd.prog 89 #[.int .i64 n] w fun e w' => e = .returned (.bool (targetB n)) ∧ w = w' := by
  go_enter Tryd.func89, Tryd.ntmps89
  go_wp2
  all_goals
    go_ret
    exact ⟨ret_bool (by simp [targetB]; omega), rfl⟩

theorem onlyB_eq (op a b : Int) (ty cl nm : List UInt8) (f : Nat) (b0 b1 b2 b3 b4 : Bool) (h0 : f.testBit 0 = b0) (h1 : f.testBit 1 = b1) (h2 : f.testBit 2 = b2) (h3 : f.testBit 3 = b3) (h4 : f.testBit 4 = b4) :
    onlyB ⟨op, a, b, ty, cl, nm⟩ f = ((a == 0 || b0) && (b == 0 || b1) && (ty == [] || b2) && (cl == [] || b3) && (nm == [] || b4)) := by
  subst h0 h1 h2 h3 h4; rfl
set_option maxHeartbeats 2000000 in
theorem hasOnly_any (x : InsD) (f : Nat) (hf : f < 32) (w : World) :
    Calls Tryd.prog 83 #[insV x, .int .u8 (f : Int)] w fun e w' => e = .returned (.bool (onlyB x f)) ∧ Below w.heap.size w w' := by
  obtain ⟨op, a, b, ty, cl, nm⟩ := x
  have H0 := fun w => has_any f hf 0 (by decide) 1 rfl w
  have H1 := fun w => has_any f hf 1 (by decide) 2 rfl w
  have H2 := fun w => has_any f hf 2 (by decide) 4 rfl w
  have H3 := fun w => has_any f hf 3 (by decide) 8 rfl w
  have H4 := fun w => has_any f hf 4 (by decide) 16 rfl w
  have E := onlyB_eq op a b ty cl nm f _ _ _ _ _ rfl rfl rfl rfl rfl
  generalize f.testBit 0 = b0 at H0 E
  generalize f.testBit 1 = b1 at H1 E
  generalize f.testBit 2 = b2 at H2 E
  generalize f.testBit 3 = b3 at H3 E
  generalize f.testBit 4 = b4 at H4 E
  replace H0 := Lib.hid H0
  replace H1 := Lib.hid H1
  replace H2 := Lib.hid H2
  replace H3 := Lib.hid H3
  replace H4 := Lib.hid H4
  replace E := Lib.hid E
  clear hf
  unfold insV
  go_enter Tryd.func83, Tryd.ntmps83
  go_wp2_with (first
    | (go_at_call 88; with_reducible refine (H0.out _).mono ?_; rintro e w' ⟨rfl, rfl⟩)
    | (go_at_call 88; with_reducible refine (H1.out _).mono ?_; rintro e w' ⟨rfl, rfl⟩)
    | (go_at_call 88; with_reducible refine (H2.out _).mono ?_; rintro e w' ⟨rfl, rfl⟩)
    | (go_at_call 88; with_reducible refine (H3.out _).mono ?_; rintro e w' ⟨rfl, rfl⟩)
    | (go_at_call 88; with_reducible refine (H4.out _).mono ?_; rintro e w' ⟨rfl, rfl⟩))
  all_goals
    go_ret
    refine ⟨ret_bool ?_, (Below.refl _ _).alloc (Nat.le_refl _) _⟩
    rw [E.out]
    clear H0 H1 H2 H3 H4 E
    simp_all [ByteArray.toList_eq, bs_list]

set_option maxHeartbeats 2000000 in
theorem range_any (x : InsD) (w : World) : Calls Tryd.prog 84 #[insV x] w fun e w' => e = .returned (.bool (rangeB x)) ∧ Below w.heap.size w w' := by
  obtain ⟨op, a, b, ty, cl, nm⟩ := x
  unfold insV
  go_enter Tryd.func84, Tryd.ntmps84
  go_wp2_with (first
    | (go_at_call 89; with_reducible refine (target_any _ _).mono ?_; rintro e w' ⟨rfl, rfl⟩))
  all_goals
    go_ret
    refine ⟨ret_bool ?_, (Below.refl _ _).alloc (Nat.le_refl _) _⟩
    simp_all [rangeB, ByteArray.toList_eq, bs_list] <;> omega

theorem type_zero (l : List UInt8) : (typeF l = 0) = (isTypeB l = true) := by unfold typeF; cases isTypeB l <;> simp
theorem meth_zero (l : List UInt8) : (methF l = 0) = ((methodB l).isSome = true) := by unfold methF; cases (methodB l).isSome <;> simp
theorem type_one (l : List UInt8) : (typeF l == 0) = isTypeB l := by unfold typeF; cases isTypeB l <;> rfl
theorem meth_one (l : List UInt8) : (methF l == 0) = (methodB l).isSome := by unfold methF; cases (methodB l).isSome <;> rfl
theorem name_one (l : List UInt8) : (nameF l == 0) = nameB l := by unfold nameF; cases nameB l <;> rfl
theorem name_zero (l : List UInt8) : (nameF l = 0) = (nameB l = true) := by unfold nameF; cases nameB l <;> simp
theorem meth_any (s : ByteArray) (w : World) (hs : s.size ≤ 140737488351232) :
    Calls Tryd.prog 57 #[.string s] w fun e w' => Below w.heap.size w w' ∧ ∃ v t, e = .returned (.tuple #[v, .string t, errV (methF s.data.toList)]) :=
  (method_any s w hs).mono fun _ _ ⟨hb, v, he, _⟩ => ⟨hb, v, _, he⟩
theorem word_types (l : List UInt8) : (isTypeB l && refWordB l) = refWordB l := by
  cases h : refWordB l with
  | true => rw [word_type h]; rfl
  | false => cases isTypeB l <;> rfl
set_option maxHeartbeats 2000000 in
theorem typed_any (x : InsD) (w : World) (hs : x.ty.length ≤ 140737488351232) : Calls Tryd.prog 85 #[insV x] w fun e w' => e = .returned (.bool (typedB x)) ∧ Below w.heap.size w w' := by
  obtain ⟨op, a, b, ty, cl, nm⟩ := x
  have hs' : ty.length ≤ 140737488351232 := hs
  have HW := Lib.hid (fun w => word_any (bs ty) w (by rw [bs_size]; unfold maxLen; omega))
  have HC := Lib.hid (fun w => dcheck_any ((⟨#[91]⟩ : ByteArray) ++ bs ty) w (by rw [cat_size]; unfold maxLen; omega))
  have HM := Lib.hid (fun w => meth_any (bs ty) w (by rw [bs_size]; omega))
  have hz : (bs ty).size ≤ 140737488351232 := hs
  have hw := Lib.hid (@refWord_no ty)
  clear hs hs'
  unfold insV
  go_enter Tryd.func85, Tryd.ntmps85
  go_wp2_with (first
    | (go_at_call 90; with_reducible refine (HW.out _).mono ?_; rintro e w' ⟨rfl, rfl⟩)
    | (go_at_call 54; with_reducible refine (HC.out _).mono ?_; rintro e w' ⟨rfl, rfl⟩)
    | (go_at_call 57; with_reducible refine (HM.out _).mono ?_; rintro e w' ⟨hb, v, t, rfl⟩))
  all_goals
    go_ret
    refine ⟨ret_bool ?_, ?_⟩
    · replace hw := hw.out
      clear HW HC HM
      simp_all [typedB, bs_list, type_zero, type_one, meth_one]
    · first
      | exact (Below.refl _ _).alloc (Nat.le_refl _) _
      | exact ((Below.refl _ _).alloc (Nat.le_refl _) _).trans (hb.mono (by simp))

set_option maxHeartbeats 2000000 in
theorem named_any2 (x : InsD) (f : Nat) (hf : f < 32) (w : World) (hc : x.cl.length ≤ 140737488351232) (hn : x.nm.length ≤ 140737488351232) :
    Calls Tryd.prog 86 #[insV x, .int .u8 (f : Int)] w fun e w' => e = .returned (.bool (namedB x f)) ∧ Below w.heap.size w w' := by
  obtain ⟨op, a, b, ty, cl, nm⟩ := x
  have H3 := fun w => has_any f hf 3 (by decide) 8 rfl w
  have H4 := fun w => has_any f hf 4 (by decide) 16 rfl w
  have HC := Lib.hid (fun w => check_any (bs cl) w (Nat.le_trans hc (by decide)))
  have HN := Lib.hid (fun w => check_any (bs nm) w (Nat.le_trans hn (by decide)))
  have E : namedB ⟨op, a, b, ty, cl, nm⟩ f = ((!f.testBit 3 || nameB cl) && (!f.testBit 4 || nameB nm)) := rfl
  generalize f.testBit 3 = b3 at H3 E
  generalize f.testBit 4 = b4 at H4 E
  replace H3 := Lib.hid H3
  replace H4 := Lib.hid H4
  replace E := Lib.hid E
  clear hf hc hn
  unfold insV
  go_enter Tryd.func86, Tryd.ntmps86
  go_wp2_with (first
    | (go_at_call 88; with_reducible refine (H3.out _).mono ?_; rintro e w' ⟨rfl, rfl⟩)
    | (go_at_call 88; with_reducible refine (H4.out _).mono ?_; rintro e w' ⟨rfl, rfl⟩)
    | (go_at_call 9; with_reducible refine (HC.out _).mono ?_; rintro e w' ⟨rfl, rfl⟩)
    | (go_at_call 9; with_reducible refine (HN.out _).mono ?_; rintro e w' ⟨rfl, rfl⟩))
  all_goals
    go_ret
    refine ⟨ret_bool ?_, (Below.refl _ _).alloc (Nat.le_refl _) _⟩
    rw [E.out]
    clear H3 H4 HC HN E
    simp_all [bs_list, name_one, name_zero]
end Go.Proofs.YtkolpbjpgobkcaaDoor
