/- The walks of the laws on array types and on joined method types. -/
import Derived.Test.YtkgadpaganhngaaDeLaws
import Derived.Laws.AppendOwnNone
namespace Go.Proofs.Ytkgadpaganhngaa
open Go.ChangeShapes Go.WideShapes Go.ChangeAt Go.RowKit
set_option linter.unusedVariables false
theorem eql_errV_full (n : Nat) (w : World) : (binOp .eql 27 (errV n) (.iface 23 (.int .i64 4))).run Try.prog w = .ok (.bool (n == 4)) w := eql_errV_iface n 4 w (by omega)
attribute [local go_sem] eqGuard_errV_nil eqGuard_errV_iface eql_errV_nil neq_errV_nil eql_errV_form eql_errV_full

theorem cat_one (c : UInt8) (t : ByteArray) : ((⟨#[c]⟩ : ByteArray) ++ t).data.toList = c :: t.data.toList := by
  show (bs [c] ++ bs t.data.toList).data.toList = _
  rw [bs_cat]; rfl
theorem cat_class (s : ByteArray) : ((⟨#[76]⟩ : ByteArray) ++ s ++ ⟨#[59]⟩).data.toList = 76 :: (s.data.toList ++ [59]) := by
  show (bs [76] ++ bs s.data.toList ++ bs [59]).data.toList = _
  rw [bs_cat, bs_cat]; rfl
theorem cat_one_size (c : UInt8) (t : ByteArray) : ((⟨#[c]⟩ : ByteArray) ++ t).size = 1 + t.size := ByteArray.size_append ..
theorem cat_class_size (s : ByteArray) : ((⟨#[76]⟩ : ByteArray) ++ s ++ ⟨#[59]⟩).size = 2 + s.size := by
  rw [ByteArray.size_append, ByteArray.size_append]
  show 1 + s.size + 1 = _
  omega
set_option maxHeartbeats 4000000 in
theorem descArrays_walk (t s : ByteArray) (w : World) (ht : t.size ≤ 140737488351232) (hs : s.size ≤ 140737488351232) :
    Calls Try.prog 9 #[.string t, .string s] w fun e w' => e = .returned (.bool true) ∧ Below w.heap.size w w' := by
  have hca := Lib.hid (fun w => dcheck_any t w (by unfold maxLen; omega))
  have hcb := Lib.hid (fun w => dcheck_any ((⟨#[91]⟩ : ByteArray) ++ t) w (by rw [cat_one_size]; unfold maxLen; omega))
  have hcc := Lib.hid (fun w => dcheck_any ((⟨#[76]⟩ : ByteArray) ++ s ++ ⟨#[59]⟩) w (by rw [cat_class_size]; unfold maxLen; omega))
  have hcn := Lib.hid (fun w => check_any s w (by unfold maxLen; omega))
  have hb : brk t.data.toList ≤ t.size := by have := brk_le t.data.toList; simpa using this
  have HL := Lib.hid (fun k h => brk_lt t (k := k) h)
  have HA := Lib.hid (brk_at t)
  have h1 : isTypeB (⟨#[91]⟩ ++ t : ByteArray).data.toList = (isTypeB t.data.toList && decide (brk t.data.toList < 3)) := by rw [cat_one, isTypeB_array]
  have h2 : isTypeB (⟨#[76]⟩ ++ s ++ ⟨#[59]⟩ : ByteArray).data.toList = nameB s.data.toList := by rw [cat_class, isTypeB_class]
  obtain ⟨e, he⟩ : ∃ e, e = brk t.data.toList := ⟨_, rfl⟩
  simp only [typeF, h1, h2, nameF] at hca hcb hcc hcn
  rw [← he] at HL HA hb hcb
  clear he h1 h2
  generalize isTypeB t.data.toList = b1 at *
  generalize nameB s.data.toList = b2 at *
  have main : ∀ x1 x2 x3 : Nat, (if b1 = true then 0 else 1) = x1 → (if (b1 && decide (e < 3)) = true then 0 else 1) = x2 → (if b2 = true then 0 else 1) = x3 → (x1 = 0 ∧ x2 = 0 ∧ e < 3 ∨ x1 = 0 ∧ x2 = 1 ∧ ¬ e < 3 ∨ x1 = 1 ∧ x2 = 1) → (x3 = 0 ∨ x3 = 1) →
    Calls Try.prog 9 #[.string t, .string s] w fun e w' => e = .returned (.bool true) ∧ Below w.heap.size w w' := by
    intro x1 x2 x3 h1 h2 h3 h4 h5
    rw [h1] at hca
    rw [h2] at hcb
    rw [h3] at hcc hcn
    clear h1 h2 h3
    rcases h5 with rfl | rfl <;> rcases h4 with ⟨rfl, rfl, h3⟩ | ⟨rfl, rfl, h3⟩ | ⟨rfl, rfl⟩
    all_goals
      first | (have h3i := Lib.hid (show decide ((e : Int) < 3) = true from decide_eq_true (by omega)); clear h3) | (have h3i := Lib.hid (show decide ((e : Int) < 3) = false from decide_eq_false (by omega)); clear h3) | skip
      go_enter Try.func9, Try.ntmps9
      go_wp2_with (first
        | (go_at_call 26; with_reducible refine (named_any _).mono ?_; rintro e w' ⟨rfl, rfl⟩))
      go_loop [6] (fun i => ∃ k : Nat, k ≤ e ∧ i = .int .i64 k) (fun i => e - (intOf i).toNat)
      case atStart => exact ⟨0, Nat.zero_le _, rfl⟩
      case round =>
        obtain ⟨k, hk, rfl⟩ := hrel
        by_cases hlt : k < e
        · obtain ⟨h1, h2⟩ := HL.out k hlt
          go_wp2
          go_round
          case rel => exact ⟨k + 1, by omega, by go_num⟩
          case measure => first | (simp [intOf]; omega) | simp [intOf]
        · obtain rfl : k = e := by omega
          clear hlt hk
          by_cases hz : k < t.size
          all_goals
            first | (have h2 := HA.out hz) | skip
            go_wp2_with (first
              | (go_at_call 17; with_reducible refine (hca.out _).mono ?_; rintro e w' ⟨rfl, rfl⟩)
              | (go_at_call 17; with_reducible refine (hcb.out _).mono ?_; rintro e w' ⟨rfl, rfl⟩)
              | (go_at_call 17; with_reducible refine (hcc.out _).mono ?_; rintro e w' ⟨rfl, rfl⟩))
            first | have h3d := h3i.out | skip
            go_quiet ((go_at_call 14; exact Calls.quiet_of_same ((hcn.out _).mono fun _ _ h => ⟨h.1, h.2.symm⟩)))
            go_wp2
            go_ret
            exact ⟨ret_bool (by simp), below_drew (Below.refl _ _) _⟩
  by_cases h1 : b1 = true
  · by_cases h2 : e < 3
    · exact main 0 0 _ (by simp [h1]) (by simp [h1, h2]) rfl (.inl ⟨rfl, rfl, h2⟩) (by cases b2 <;> simp)
    · exact main 0 1 _ (by simp [h1]) (by simp [h1, h2]) rfl (.inr (.inl ⟨rfl, rfl, h2⟩)) (by cases b2 <;> simp)
  · exact main 1 1 _ (by simp [h1]) (by simp [h1]) rfl (.inr (.inr ⟨rfl, rfl⟩)) (by cases b2 <;> simp)

/-- One list behind another: the first a row of the call's own. -/
theorem wpList_join_rows {w : World} {ops : Array Oper} {rest : List Oper} {o : Oper} {a : Act} {Q : Exit → Act → World → Prop} (hgd : o.guard = none) (s x : Operand)
    (ho : o.op = .call { callee := .builtin .append, args := #[s, x], argTypes := #[33, 33] })
    (base : Nat) (v : Value) (xs : List (List UInt8)) (hs : a.eval s = v) (hown : w.ownsRow base 9 1 v xs.length (xs.map strV))
    (B : Nat) (u : Value) (ys : List (List UInt8)) (hx : a.eval x = u) (hu : w.ownsRow B 9 1 u ys.length (ys.map strV)) (hn : xs.length + ys.length ≤ 100) (hbase : base ≤ w.heap.size)
    (h : ∀ v' w', w'.ownsRow base 9 1 v' (xs ++ ys).length ((xs ++ ys).map strV) → Below base w w' → wpList Try.prog ops Q rest (a.put o.dst v') w') : wpList Try.prog ops Q (o :: rest) a w := by
  obtain ⟨i0, hi, hz0, hz1, hz2⟩ := info_parts str_info
  rcases hu.2 with ⟨rfl, h0⟩ | ⟨g, cap, cur, rfl, _, hg, hnc, _⟩
  · obtain rfl : ys = [] := List.eq_nil_of_length_eq_zero h0
    refine wpList_append_own_none hgd s x 33 ho base 9 i0 1 Try.underlying33 hi v xs.length (xs.map strV) hs hown hx ?_
    exact h v w (by simpa using hown) (Below.refl _ _)
  · refine wpList_append_own _ hgd s x 33 ho base 9 i0 (.string ByteArray.empty) 1 16 Try.underlying33 hi hz0 hz1 hz2 rfl (by decide) v xs.length (xs.map strV) hs hown ⟨g, 0, none⟩ ys.length cap (ys.map strV) hx (by simp) (hu.cells rfl) (str_one ys) (by unfold maxLen; omega) (by omega) hbase ?_
    intro v' w' h1 h2 _
    exact h v' w' (by rw [List.map_append, List.length_append]; exact h1) ((Below.refl _ _).grown h2 hbase (fun q hq => (hown.lt q hq).1))
theorem own_says {w w' : World} {l : List UInt8} {a : List (List UInt8)} {g : List UInt8} {last : Value} {e : Ending} (hm : methodB l = some (a, g)) (h : MethodSays w l last e w') :
    ∃ A c, e = .returned (.tuple #[.slice A a.length c, .string (bs g), last]) ∧ w'.ownsRow w.heap.size 9 1 (.slice A a.length c) a.length (a.map strV) ∧ Below w.heap.size w w' := by
  obtain ⟨hb, v, rfl, hv⟩ := h
  rw [methP_some hm] at hv ⊢
  obtain ⟨A, c, rfl⟩ := own_form hv
  exact ⟨A, c, rfl, hv, hb⟩
theorem own_empty (w : World) (base : Nat) (hb : base ≤ w.heap.size) : (w.alloc (.cells #[] 9 (0, 0))).ownsRow base 9 1 (.slice (some ⟨w.heap.size, 0, none⟩) 0 0) ([] : List (List UInt8)).length (([] : List (List UInt8)).map strV) :=
  World.ownsRow_made w #[] 0 hb (Nat.zero_le _) rfl
set_option maxHeartbeats 4000000 in
theorem descJoined_walk (s t : ByteArray) (w : World) (hs : s.size ≤ 140737488351232) (ht : t.size ≤ 140737488351232) :
    Calls Try.prog 10 #[.string s, .string t] w fun e w' => e = .returned (.bool true) ∧ Below w.heap.size w w' := by
  cases hm1 : methodB s.data.toList with
  | none =>
    have h1 := Lib.hid (fun w => (method_any s w hs).mono fun _ _ h => row_says h)
    have h2 := Lib.hid (fun w => (method_any t w ht).mono fun _ _ h => row_says h)
    rw [methF_none hm1] at h1
    clear hm1
    go_enter Try.func10, Try.ntmps10
    go_wp2_with (first
      | (go_at_call 26; with_reducible refine (named_any _).mono ?_; rintro e w' ⟨rfl, rfl⟩)
      | (go_at_call 19; with_reducible refine (h1.out _).mono ?_; rintro e w1 ⟨A1, c1, rfl, hr1, hb1⟩; have HB1 := Lib.hid hb1; clear hr1 hb1)
      | (go_at_call 19; with_reducible refine (h2.out _).mono ?_; rintro e w2 ⟨A2, c2, rfl, hr2, hb2⟩; have HB2 := Lib.hid (below_next HB1.out hb2); clear hr2 hb2))
    go_ret
    exact ⟨rfl, HB2.out⟩
  | some p1 =>
    obtain ⟨a1, g1⟩ := p1
    have h1 := Lib.hid (fun w => (method_any s w hs).mono fun _ _ h => own_says hm1 h)
    rw [methF_some hm1] at h1
    obtain ⟨_, ha1, hl1, _⟩ := methodB_some hm1
    clear hm1
    cases hm2 : methodB t.data.toList with
    | none =>
      have h2 := Lib.hid (fun w => (method_any t w ht).mono fun _ _ h => row_says h)
      rw [methF_none hm2] at h2
      clear hm2
      go_enter Try.func10, Try.ntmps10
      go_wp2_with (first
        | (go_at_call 26; with_reducible refine (named_any _).mono ?_; rintro e w' ⟨rfl, rfl⟩)
        | (go_at_call 19; with_reducible refine (h1.out _).mono ?_; rintro e w1 ⟨A1, c1, rfl, hr1, hb1⟩; have HB1 := Lib.hid hb1; clear hr1 hb1)
        | (go_at_call 19; with_reducible refine (h2.out _).mono ?_; rintro e w2 ⟨A2, c2, rfl, hr2, hb2⟩; have HB2 := Lib.hid (below_next HB1.out hb2); clear hr2 hb2))
      go_ret
      exact ⟨rfl, HB2.out⟩
    | some p2 =>
      obtain ⟨a2, g2⟩ := p2
      have h2 := Lib.hid (fun w => (method_any t w ht).mono fun _ _ h => own_says hm2 h)
      rw [methF_some hm2] at h2
      obtain ⟨_, ha2, hl2, hg2⟩ := methodB_some hm2
      have hgl := resultB_le hg2
      clear hm2
      have hall : ∀ x ∈ a1 ++ a2, isTypeB x = true := fun x hx => (List.mem_append.1 hx).elim (ha1 x) (ha2 x)
      obtain ⟨xs, hxs⟩ : ∃ xs, xs = a1 ++ a2 := ⟨_, rfl⟩
      have hlen : xs.length ≤ 10 := by rw [hxs, List.length_append]; omega
      rw [← hxs] at hall
      have hmk := Lib.hid (fun A c w (hr : Row w A xs.length c (xs.map strV)) => make_any A xs.length c xs (bs g2) w hr (sizes_types hall) (by rw [bs_size]; omega))
      rw [bs_list] at hmk
      have HX := Lib.hid hxs
      clear hxs ha1 ha2
      by_cases h5 : 5 < xs.length
      · have hf := makeF_full (g := g2) h5
        rw [makeT_no (by omega) hf, hf] at hmk
        have h5i : 5 < (xs.length : Int) := by omega
        clear hf h5
        go_enter Try.func10, Try.ntmps10
        go_wp2_with (first
          | (go_at_call 26; with_reducible refine (named_any _).mono ?_; rintro e w' ⟨rfl, rfl⟩)
          | (go_at_call 19; with_reducible refine (h1.out _).mono ?_; rintro e w1 ⟨A1, c1, rfl, hr1, hb1⟩; have HB1 := Lib.hid hb1; have HR1 := Lib.hid hr1; clear hr1 hb1)
          | (go_at_call 19; with_reducible refine (h2.out _).mono ?_; rintro e w2 ⟨A2, c2, rfl, hr2, hb2⟩; have HB2 := Lib.hid (below_next HB1.out hb2); have HR2 := Lib.hid hr2; have HO1 := Lib.hid (own_below HR1.out hb2); clear hr2 hb2)
          | (at_builtin; refine wpList_join_rows rfl (.tmp 41) (.tmp 42) rfl w2.heap.size _ [] rfl (own_empty w2 _ (Nat.le_refl _)) _ _ a1 rfl (own_below HO1.out ((Below.refl _ _).alloc (Nat.le_refl _) _)) (by simp; omega) (by simp) ?_; intro v3 w3 hv3 hb3; have HV3 := Lib.hid hv3; have HB3 := Lib.hid (((Below.refl w2.heap.size w2).alloc (Nat.le_refl _) _).trans hb3); clear hv3 hb3)
          | (at_builtin; refine wpList_join_rows rfl (.tmp 43) (.tmp 44) rfl w2.heap.size _ a1 rfl HV3.out _ _ a2 rfl (own_below HR2.out HB3.out) (by omega) HB3.out.size ?_; intro v4 w4 hv4 hb4; rw [← HX.out] at hv4; obtain ⟨A4, c4, rfl⟩ := own_form hv4; have HR4 := Lib.hid (Row.own hv4); have HB4 := Lib.hid (below_next HB2.out (HB3.out.trans hb4)); clear hv4 hb4)
          | (go_at_call 24; refine (hmk.out _ _ _ HR4.out).mono ?_; rintro e w5 ⟨rfl, hb5⟩; have HB5 := Lib.hid (below_next HB4.out hb5); clear hb5))
        go_ret
        exact ⟨ret_bool (by simp [bs_empty]), HB5.out⟩
      · have hx5 : xs.length ≤ 5 := by omega
        have hf := makeF_ok (g := g2) h5 (List.all_eq_true.2 hall) hg2
        have hm := methodB_make hall hx5 hg2
        rw [makeT_ok hf, hf] at hmk
        have hl : (makeText xs g2).length ≤ 200 := by
          have h1 := flat_part hx5 hall xs.length
          rw [List.take_length] at h1
          simp only [makeText, List.length_cons, List.length_append]
          omega
        have h3 := Lib.hid (fun w => (method_any (bs (makeText xs g2)) w (by rw [bs_size]; omega)).mono fun _ _ h => own_says (l := makeText xs g2) hm h)
        rw [show methF (bs (makeText xs g2)).data.toList = 0 from methF_some (l := makeText xs g2) hm] at h3
        have h5i : ¬ 5 < (xs.length : Int) := by omega
        clear hf h5 hm hl
        go_enter Try.func10, Try.ntmps10
        go_wp2_with (first
          | (go_at_call 26; with_reducible refine (named_any _).mono ?_; rintro e w' ⟨rfl, rfl⟩)
          | (go_at_call 19; with_reducible refine (h1.out _).mono ?_; rintro e w1 ⟨A1, c1, rfl, hr1, hb1⟩; have HB1 := Lib.hid hb1; have HR1 := Lib.hid hr1; clear hr1 hb1)
          | (go_at_call 19; with_reducible refine (h2.out _).mono ?_; rintro e w2 ⟨A2, c2, rfl, hr2, hb2⟩; have HB2 := Lib.hid (below_next HB1.out hb2); have HR2 := Lib.hid hr2; have HO1 := Lib.hid (own_below HR1.out hb2); clear hr2 hb2)
          | (at_builtin; refine wpList_join_rows rfl (.tmp 41) (.tmp 42) rfl w2.heap.size _ [] rfl (own_empty w2 _ (Nat.le_refl _)) _ _ a1 rfl (own_below HO1.out ((Below.refl _ _).alloc (Nat.le_refl _) _)) (by simp; omega) (by simp) ?_; intro v3 w3 hv3 hb3; have HV3 := Lib.hid hv3; have HB3 := Lib.hid (((Below.refl w2.heap.size w2).alloc (Nat.le_refl _) _).trans hb3); clear hv3 hb3)
          | (at_builtin; refine wpList_join_rows rfl (.tmp 43) (.tmp 44) rfl w2.heap.size _ a1 rfl HV3.out _ _ a2 rfl (own_below HR2.out HB3.out) (by omega) HB3.out.size ?_; intro v4 w4 hv4 hb4; rw [← HX.out] at hv4; obtain ⟨A4, c4, rfl⟩ := own_form hv4; have HR4 := Lib.hid (Row.own hv4); have HB4 := Lib.hid (below_next HB2.out (HB3.out.trans hb4)); clear hv4 hb4)
          | (go_at_call 24; refine (hmk.out _ _ _ HR4.out).mono ?_; rintro e w5 ⟨rfl, hb5⟩; have HB5 := Lib.hid (below_next HB4.out hb5); have HR5 := Lib.hid (HR4.out.below hb5); clear hb5)
          | (go_at_call 19; with_reducible refine (h3.out _).mono ?_; rintro e w6 ⟨A6, c6, rfl, hr6, hb6⟩; have HB6 := Lib.hid (below_next HB5.out hb6); have HR6 := Lib.hid (Row.own hr6); have HR7 := Lib.hid (HR5.out.below hb6); clear hr6 hb6)
          | (go_at_call 21; refine (texts_same _ _ _ _ _ _ xs xs _ HR6.out HR7.out hx5 rfl).mono ?_; rintro e w8 ⟨rfl, k, rfl⟩))
        go_ret
        exact ⟨ret_bool (by simp), below_drew HB6.out k⟩
end Go.Proofs.Ytkgadpaganhngaa
