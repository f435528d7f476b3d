/- The walks of the laws on types and method types. -/
import Derived.Test.YtkgadpaganhngaaDeZ
namespace Go.Proofs.Ytkgadpaganhngaa
open Go.ChangeShapes Go.WideShapes Go.ChangeAt Go.RowKit
set_option linter.unusedVariables false
attribute [local go_sem] eqGuard_errV_nil eqGuard_errV_iface eql_errV_nil neq_errV_nil eql_errV_form

theorem below_next {w a b : World} (h : Below w.heap.size w a) (k : Below a.heap.size a b) : Below w.heap.size w b := h.trans (k.mono h.size)
theorem below_drew {w a : World} {B : Nat} (h : Below B w a) (n : Nat) : Below B w (a.drewN n) := ⟨h.os, h.tape, h.output, h.size, h.block⟩
theorem Row.new2 (w : World) (a b : Value) (t : TypeId) (x : Nat × Nat) : Row (w.alloc (.cells #[a, b] t x)) (some ⟨w.heap.size, 0, none⟩) 2 2 [a, b] := by
  refine ⟨rfl, Nat.le_refl _, fun _ => ⟨_, _, rfl, by simp, fun j u hu => ?_⟩⟩
  have e := World.cell?_alloc_mark w #[a, b] t x (0 + j)
  rw [e]
  match j, hu with
  | 0, hu => simpa using hu
  | 1, hu => simpa using hu
theorem texts_same (A B : Option Addr) (n m c d : Nat) (xs ys : List (List UInt8)) (w : World) (ha : Row w A n c (xs.map strV)) (hb : Row w B m d (ys.map strV)) (hm : n ≤ 5) (he : xs = ys) :
    Calls Try.prog 21 #[.slice A n c, .slice B m d] w fun e w' => e = .returned (.bool true) ∧ ∃ k, w' = w.drewN k := by
  have h := texts_any A B n m c d xs ys w ha hb (by omega)
  rw [decide_eq_true he] at h
  exact h
theorem methP_len (l : List UInt8) : (methP l).1.length ≤ 5 := by
  cases h : methodB l with
  | none => rw [methP_none h]; exact Nat.zero_le _
  | some p => obtain ⟨a, g⟩ := p; rw [methP_some h]; exact (methodB_some h).2.2.1
theorem sample_meth : methodB [40, 73, 91, 76, 65, 59, 41, 86] = some ([[73], [91, 76, 65, 59]], [86]) :=
  methodB_make (a := [[73], [91, 76, 65, 59]]) (g := [86]) (by decide) (by decide) rfl
theorem sample_any (w : World) : Calls Try.prog 19 #[.string ⟨#[40, 73, 91, 76, 65, 59, 41, 86]⟩] w fun e w' => ∃ A c, e = .returned (.tuple #[.slice A 2 c, .string ⟨#[86]⟩, .nilIface]) ∧ Row w' A 2 c ([[73], [91, 76, 65, 59]].map strV) ∧ Below w.heap.size w w' := by
  refine (method_any ⟨#[40, 73, 91, 76, 65, 59, 41, 86]⟩ w (by decide)).mono ?_
  rintro e w' ⟨hb, v, rfl, hv⟩
  have hm : methodB (⟨#[40, 73, 91, 76, 65, 59, 41, 86]⟩ : ByteArray).data.toList = some ([[73], [91, 76, 65, 59]], [86]) := sample_meth
  rw [methP_some hm] at hv ⊢
  rw [methF_some hm]
  obtain ⟨A, c, rfl⟩ := own_form hv
  exact ⟨A, c, rfl, Row.own hv, hb⟩
theorem typed_any (w : World) : Calls Try.prog 15 #[] w fun e w' => e = .returned (.bool true) ∧ Below w.heap.size w w' := by
  go_enter Try.func15, Try.ntmps15
  go_wp2_with (first
    | (go_at_call 19; refine (sample_any _).mono ?_; rintro e w1 ⟨A1, c1, rfl, hr1, hb1⟩)
    | (go_at_call 21; refine (texts_same _ _ _ _ _ _ [[73], [91, 76, 65, 59]] [[73], [91, 76, 65, 59]] _ (hr1.alloc _) (Row.new2 _ _ _ _ _) (by omega) rfl).mono ?_; rintro e w2 ⟨rfl, k, rfl⟩))
  go_ret
  exact ⟨rfl, below_drew (hb1.alloc hb1.size _) k⟩

theorem error_same (n : Nat) (w : World) : Calls Try.prog 13 #[errV n, .int .i64 (n : Int)] w fun e w' => e = .returned (.bool true) ∧ w = w' := by
  have h := sameError_any n n w
  rw [beq_self_eq_true] at h
  exact h
theorem error_zero (w : World) : Calls Try.prog 13 #[errV 0, .int .i64 0] w fun e w' => e = .returned (.bool true) ∧ w = w' := error_same 0 w
theorem error_none (w : World) : Calls Try.prog 13 #[.nilIface, .int .i64 0] w fun e w' => e = .returned (.bool true) ∧ w = w' := error_same 0 w
theorem error_form (w : World) : Calls Try.prog 13 #[errV 1, .int .i64 1] w fun e w' => e = .returned (.bool true) ∧ w = w' := error_same 1 w
theorem bs_empty : (bs []).toList.isEmpty = true := by rw [ByteArray.toList_eq]; rfl
theorem row_says {w w' : World} {l : List UInt8} {last : Value} {e : Ending} (h : MethodSays w l last e w') :
    ∃ A c, e = .returned (.tuple #[.slice A (methP l).1.length c, .string (bs (methP l).2), last]) ∧ Row w' A (methP l).1.length c ((methP l).1.map strV) ∧ Below w.heap.size w w' := by
  obtain ⟨hb, v, rfl, hv⟩ := h
  obtain ⟨A, c, rfl⟩ := own_form hv
  exact ⟨A, c, rfl, Row.own hv, hb⟩
set_option maxHeartbeats 2000000 in
theorem descTells_walk (s : ByteArray) (w : World) (hs : s.size ≤ 1048576) : Calls Try.prog 5 #[.string s] w fun e w' => e = .returned (.bool true) ∧ Below w.heap.size w w' := by
  have hlen := methP_len s.data.toList
  have hty := Lib.hid (fun w => isType_any s w (by unfold maxLen; omega))
  have hck := Lib.hid (fun w => dcheck_any s w (by unfold maxLen; omega))
  have hwd := Lib.hid (fun w => word_any s w (by unfold maxLen; omega))
  have hme := Lib.hid (fun w => (method_any s w (by omega)).mono fun _ _ h => row_says h)
  have hmo := Lib.hid (fun w => (methodOf_any s w (by omega)).mono fun _ _ h => row_says h)
  have hrw := Lib.hid (fun w => refIsWord_any s w)
  have hd1 : isTypeB s.data.toList = true ∧ typeF s.data.toList = 0 ∨ isTypeB s.data.toList = false ∧ typeF s.data.toList = 1 := by
    cases h : isTypeB s.data.toList
    · exact .inr ⟨rfl, typeF_no h⟩
    · exact .inl ⟨rfl, typeF_yes h⟩
  have hd2 : methS s.data.toList = true ∧ methF s.data.toList = 0 ∨ methS s.data.toList = false ∧ methF s.data.toList = 1 := by
    cases h : methodB s.data.toList with
    | none => exact .inr ⟨methS_none h, methF_none h⟩
    | some p => obtain ⟨a, g⟩ := p; exact .inl ⟨methS_some h, methF_some h⟩
  rcases hd1 with ⟨h1, h2⟩ | ⟨h1, h2⟩ <;> rcases hd2 with ⟨h3, h4⟩ | ⟨h3, h4⟩

  all_goals
    rw [h1] at hty
    rw [h2] at hck hwd
    rw [h3] at hmo
    rw [h4] at hme
    clear h1 h2 h3 h4
    go_enter Try.func5, Try.ntmps5
    go_wp2_with (first
      | (go_at_call 15; refine (typed_any _).mono ?_; rintro e w0 ⟨rfl, hb0⟩; have HB0 := Lib.hid hb0; clear hb0)
      | (go_at_call 16; with_reducible refine (hty.out _).mono ?_; rintro e w' ⟨rfl, rfl⟩)
      | (go_at_call 17; with_reducible refine (hck.out _).mono ?_; rintro e w' ⟨rfl, rfl⟩)
      | (go_at_call 18; with_reducible refine (hwd.out _).mono ?_; rintro e w' ⟨rfl, rfl⟩)
      | (go_at_call 22; with_reducible refine (hrw.out _).mono ?_; rintro e w' ⟨rfl, rfl⟩)
      | (go_at_call 13; first | (with_reducible refine (error_zero _).mono ?_; rintro e w' ⟨rfl, rfl⟩) | (with_reducible refine (error_none _).mono ?_; rintro e w' ⟨rfl, rfl⟩) | (with_reducible refine (error_form _).mono ?_; rintro e w' ⟨rfl, rfl⟩))
      | (go_at_call 19; with_reducible refine (hme.out _).mono ?_; rintro e w1 ⟨A1, c1, rfl, hr1, hb1⟩; have HR1 := Lib.hid hr1; have HB1 := Lib.hid hb1; clear hr1 hb1)
      | (go_at_call 20; with_reducible refine (hmo.out _).mono ?_; rintro e w2 ⟨A2, c2, rfl, hr2, hb2⟩; have HR2 := Lib.hid hr2; have HB2 := Lib.hid hb2; clear hr2 hb2)
      | (go_at_call 21; refine (texts_same _ _ _ _ _ _ (methP s.data.toList).1 (methP s.data.toList).1 _ (HR1.out.below HB2.out) HR2.out hlen rfl).mono ?_; rintro e w3 ⟨rfl, k, rfl⟩))
    go_ret
    exact ⟨ret_bool (by simp), below_drew (below_next (below_next HB0.out HB1.out) HB2.out) k⟩

theorem descBack_text {l : List UInt8} {a : List (List UInt8)} {g : List UInt8} (h : methodB l = some (a, g)) : makeF a g = 0 ∧ makeT a g = l := by
  obtain ⟨h1, h2, h3, h4⟩ := methodB_some h
  have hf : makeF a g = 0 := makeF_ok (by omega) (List.all_eq_true.2 h2) h4
  exact ⟨hf, by rw [makeT_ok hf, h1]⟩
theorem sizes_types {xs : List (List UInt8)} (h : ∀ x ∈ xs, isTypeB x = true) : Sizes xs := fun x hx => by have := isTypeB_le (h x hx); unfold maxLen; omega
theorem resultB_le {g : List UInt8} (h : resultB g = true) : g.length ≤ 25 := by
  rw [resultB, Bool.or_eq_true] at h
  rcases h with h | h
  · rw [eq_of_beq h]; decide
  · exact isTypeB_le h
set_option maxHeartbeats 2000000 in
theorem descBack_walk (s : ByteArray) (w : World) (hs : s.size ≤ 140737488351232) : Calls Try.prog 7 #[.string s] w fun e w' => e = .returned (.bool true) ∧ Below w.heap.size w w' := by
  have hme := Lib.hid (fun w => (method_any s w hs).mono fun _ _ h => row_says h)
  cases hm : methodB s.data.toList with
  | none =>
    rw [methP_none hm, methF_none hm] at hme
    clear hm
    go_enter Try.func7, Try.ntmps7
    go_wp2_with (first
      | (go_at_call 15; refine (typed_any _).mono ?_; rintro e w0 ⟨rfl, hb0⟩; have HB0 := Lib.hid hb0; clear hb0)
      | (go_at_call 19; with_reducible refine (hme.out _).mono ?_; rintro e w1 ⟨A1, c1, rfl, hr1, hb1⟩; have HB1 := Lib.hid hb1; clear hr1 hb1))
    go_ret
    exact ⟨ret_bool bs_empty, below_next HB0.out HB1.out⟩
  | some p =>
    obtain ⟨a, g⟩ := p
    obtain ⟨h1, h2, h3, h4⟩ := methodB_some hm
    obtain ⟨h5, h6⟩ := descBack_text hm
    have hg := resultB_le h4
    have hmk := Lib.hid (fun A c w (hr : Row w A a.length c (a.map strV)) => make_any A a.length c a (bs g) w hr (sizes_types h2) (by rw [bs_size]; omega))
    rw [bs_list, h5, h6, bs_of] at hmk
    rw [methP_some hm, methF_some hm] at hme
    clear hm h1 h2 h3 h4 h5 h6 hg
    go_enter Try.func7, Try.ntmps7
    go_wp2_with (first
      | (go_at_call 15; refine (typed_any _).mono ?_; rintro e w0 ⟨rfl, hb0⟩; have HB0 := Lib.hid hb0; clear hb0)
      | (go_at_call 19; with_reducible refine (hme.out _).mono ?_; rintro e w1 ⟨A1, c1, rfl, hr1, hb1⟩; have HB1 := Lib.hid hb1; have HR1 := Lib.hid hr1; clear hr1 hb1)
      | (go_at_call 24; refine (hmk.out _ _ _ HR1.out).mono ?_; rintro e w2 ⟨rfl, hb2⟩; have HB2 := Lib.hid hb2; clear hb2))
    go_ret
    exact ⟨ret_bool (by simp), below_next (below_next HB0.out HB1.out) HB2.out⟩

theorem makeF_dec (xs : List (List UInt8)) (g : List UInt8) : makeF xs g = 4 ∨ makeF xs g = 1 ∨ (makeF xs g = 0 ∧ xs.length ≤ 5 ∧ (∀ x ∈ xs, isTypeB x = true) ∧ resultB g = true) := by
  by_cases h5 : 5 < xs.length
  · exact .inl (makeF_full h5)
  · by_cases h : xs.all isTypeB = true ∧ resultB g = true
    · exact .inr (.inr ⟨makeF_ok h5 h.1 h.2, by omega, fun x hx => List.all_eq_true.1 h.1 x hx, h.2⟩)
    · exact .inr (.inl (by rw [makeF, if_neg h5, if_neg h]))
set_option maxHeartbeats 2000000 in
theorem descMakes_walk (A : Option Addr) (n c : Nat) (xs : List (List UInt8)) (g : ByteArray) (w : World) (hr : Row w A n c (xs.map strV)) (hx : Sizes xs) (hg : g.size ≤ 140737488351232) :
    Calls Try.prog 6 #[.slice A n c, .string g] w fun e w' => e = .returned (.bool true) ∧ Below w.heap.size w w' := by
  obtain rfl : n = xs.length := by simpa using hr.1.symm
  have hmf := Lib.hid (fun w hr => makeFault_any A xs.length c xs g w hr hx hg)
  have hmk := Lib.hid (fun w hr => make_any A xs.length c xs g w hr hx hg)
  have HR := Lib.hid hr
  rcases makeF_dec xs g.data.toList with h | h | ⟨h, h5, ha, hgr⟩
  · rw [h] at hmf hmk
    rw [makeT_no (by omega) h] at hmk
    clear h
    go_enter Try.func6, Try.ntmps6
    go_wp2_with (first
      | (go_at_call 15; refine (typed_any _).mono ?_; rintro e w0 ⟨rfl, hb0⟩; have HB0 := Lib.hid hb0; clear hb0)
      | (go_at_call 23; refine (hmf.out _ (HR.out.below HB0.out)).mono ?_; rintro e w' ⟨rfl, rfl⟩)
      | (go_at_call 13; refine (error_same 4 _).mono ?_; rintro e w' ⟨rfl, rfl⟩)
      | (go_at_call 24; refine (hmk.out _ (HR.out.below HB0.out)).mono ?_; rintro e w2 ⟨rfl, hb2⟩; have HB2 := Lib.hid hb2; clear hb2))
    go_ret
    exact ⟨ret_bool bs_empty, below_next HB0.out HB2.out⟩
  · rw [h] at hmf hmk
    rw [makeT_no (by omega) h] at hmk
    clear h
    go_enter Try.func6, Try.ntmps6
    go_wp2_with (first
      | (go_at_call 15; refine (typed_any _).mono ?_; rintro e w0 ⟨rfl, hb0⟩; have HB0 := Lib.hid hb0; clear hb0)
      | (go_at_call 23; refine (hmf.out _ (HR.out.below HB0.out)).mono ?_; rintro e w' ⟨rfl, rfl⟩)
      | (go_at_call 13; refine (error_same 1 _).mono ?_; rintro e w' ⟨rfl, rfl⟩)
      | (go_at_call 24; refine (hmk.out _ (HR.out.below HB0.out)).mono ?_; rintro e w2 ⟨rfl, hb2⟩; have HB2 := Lib.hid hb2; clear hb2))
    go_ret
    exact ⟨ret_bool bs_empty, below_next HB0.out HB2.out⟩
  · have hgl := resultB_le hgr
    have hm := methodB_make ha h5 hgr
    have hl : (makeText xs g.data.toList).length ≤ 200 := by
      have h1 := flat_part h5 ha xs.length
      rw [List.take_length] at h1
      simp only [makeText, List.length_cons, List.length_append]
      omega
    have hme := Lib.hid (fun w => (method_any (bs (makeText xs g.data.toList)) w (by rw [bs_size]; omega)).mono fun _ _ h => row_says h)
    rw [bs_list, methP_some hm, methF_some hm] at hme
    have hmt := Lib.hid (fun w hr => methodText_any A xs.length c xs g w hr h5 ha hg)
    rw [h] at hmf hmk
    rw [makeT_ok h] at hmk
    have hgl2 : g.data.toList.length = g.size := Array.length_toList
    clear h hgr hm hl
    go_enter Try.func6, Try.ntmps6
    go_wp2_with (first
      | (go_at_call 15; refine (typed_any _).mono ?_; rintro e w0 ⟨rfl, hb0⟩; have HB0 := Lib.hid hb0; clear hb0)
      | (go_at_call 23; refine (hmf.out _ (HR.out.below HB0.out)).mono ?_; rintro e w' ⟨rfl, rfl⟩)
      | (go_at_call 13; refine (error_none _).mono ?_; rintro e w' ⟨rfl, rfl⟩)
      | (go_at_call 24; refine (hmk.out _ (HR.out.below HB0.out)).mono ?_; rintro e w2 ⟨rfl, hb2⟩; have HB2 := Lib.hid (below_next HB0.out hb2); clear hb2)
      | (go_at_call 19; with_reducible refine (hme.out _).mono ?_; rintro e w3 ⟨A3, c3, rfl, hr3, hb3⟩; have HB3 := Lib.hid (below_next HB2.out hb3); have HR3 := Lib.hid hr3; clear hr3 hb3)
      | (go_at_call 21; refine (texts_same _ _ _ _ _ _ xs xs _ HR3.out (HR.out.below HB3.out) h5 rfl).mono ?_; rintro e w4 ⟨rfl, k, rfl⟩)
      | (go_at_call 25; refine (hmt.out _ ((HR.out.below HB3.out).drewN k)).mono ?_; rintro e w' ⟨rfl, rfl⟩))
    go_ret
    exact ⟨ret_bool (by simp), below_drew HB3.out k⟩
end Go.Proofs.Ytkgadpaganhngaa
