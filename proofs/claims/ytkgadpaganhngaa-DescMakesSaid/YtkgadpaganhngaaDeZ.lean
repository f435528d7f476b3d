/- The contracts of desc.Make and of the reference's MakeFault and MethodText. -/
import Derived.Test.YtkgadpaganhngaaDeY
namespace Go.Proofs.Ytkgadpaganhngaa
open Go.ChangeShapes Go.WideShapes Go.ChangeAt Go.RowKit
set_option linter.unusedVariables false
attribute [local go_sem] eqGuard_errV_nil eqGuard_errV_iface eql_errV_nil neq_errV_nil eql_errV_form

theorem isTypeB_le {l : List UInt8} (h : isTypeB l = true) : l.length ≤ 25 := by
  obtain ⟨h1, h2⟩ := isTypeB_len h
  obtain ⟨h3, h4, h5, h6⟩ := typeLen_pos h1
  have : itemLen (l.drop (brk l)) ≤ 22 := by
    cases hd : l.drop (brk l) with
    | nil => simp [itemLen]
    | cons c r =>
      simp only [itemLen]
      split
      · omega
      · split
        · rename_i h
          have hn := nameB_len h.2.2
          have := semi_le r
          simp at hn
          omega
        · omega
  omega
def makeF (xs : List (List UInt8)) (g : List UInt8) : Nat := if 5 < xs.length then 4 else if xs.all isTypeB = true ∧ resultB g = true then 0 else 1
theorem flat_le : ∀ (xs : List (List UInt8)), (∀ x ∈ xs, x.length ≤ 25) → xs.flatten.length ≤ 25 * xs.length
  | [], _ => by simp
  | x :: r, h => by
    have h1 := h x (List.mem_cons_self ..)
    have h2 := flat_le r (fun y hy => h y (List.mem_cons_of_mem _ hy))
    simp only [List.flatten_cons, List.length_append, List.length_cons]
    omega
theorem join_flat : ∀ (xs : List (List UInt8)), Lib.join xs [] = xs.flatten
  | [] => rfl
  | x :: r => by rw [Lib.join_cons]; simp [Lib.joinTail]
theorem makeF_full {xs : List (List UInt8)} {g : List UInt8} (h : 5 < xs.length) : makeF xs g = 4 := by rw [makeF, if_pos h]
theorem makeF_ok {xs : List (List UInt8)} {g : List UInt8} (h : ¬ 5 < xs.length) (ha : xs.all isTypeB = true) (hg : resultB g = true) : makeF xs g = 0 := by rw [makeF, if_neg h, if_pos ⟨ha, hg⟩]
theorem makeF_arg {xs : List (List UInt8)} {g : List UInt8} (h : ¬ 5 < xs.length) {k : Nat} (hk : k < xs.length) (ht : isTypeB xs[k] = false) : makeF xs g = 1 := by
  rw [makeF, if_neg h, if_neg]
  rintro ⟨h1, _⟩
  rw [List.all_eq_true] at h1
  rw [h1 _ (List.getElem_mem hk)] at ht
  cases ht
theorem makeF_res {xs : List (List UInt8)} {g : List UInt8} (h : ¬ 5 < xs.length) (hg : resultB g = false) : makeF xs g = 1 := by
  rw [makeF, if_neg h, if_neg]
  rintro ⟨_, h2⟩
  rw [hg] at h2; cases h2
theorem all_more {xs : List (List UInt8)} {k : Nat} (hk : k < xs.length) (h : (xs.take k).all isTypeB = true) (ht : isTypeB xs[k] = true) : (xs.take (k + 1)).all isTypeB = true := by
  rw [List.take_succ_eq_append_getElem hk, List.all_append, h]; simp [ht]
def Sizes (xs : List (List UInt8)) : Prop := ∀ x ∈ xs, x.length ≤ maxLen

set_option maxHeartbeats 1000000 in
theorem makeFault_any (A : Option Addr) (n c : Nat) (xs : List (List UInt8)) (g : ByteArray) (w : World) (hr : Row w A n c (xs.map strV)) (hx : Sizes xs) (hg : g.size ≤ 140737488351232) :
    Calls Try.prog 23 #[.slice A n c, .string g] w fun e w' => e = .returned (.int .i64 (makeF xs g.data.toList : Nat)) ∧ w = w' := by
  have hn : xs.length = n := by simpa using hr.1
  have hit := Lib.hid (fun (k : Nat) (h : k < xs.length) w => isType_any (bs xs[k]) w (by rw [bs_size]; exact hx _ (List.getElem_mem h)))
  have hig := Lib.hid (fun w => isType_any g w (by unfold maxLen; omega))
  by_cases h5 : 5 < n
  · have h5i : 5 < (n : Int) := by omega
    have HF := Lib.hid (makeF_full (xs := xs) (g := g.data.toList) (by omega))
    clear hn
    go_enter Try.func23, Try.ntmps23
    go_wp2
    go_ret
    exact ⟨ret_int (by rw [HF.out]; rfl), rfl⟩
  · have h5i : ¬ 5 < (n : Int) := by omega
    have hx5 : ¬ 5 < xs.length := by omega
    have HN := Lib.hid hn
    clear hn
    go_enter Try.func23, Try.ntmps23
    go_wp2
    go_loop [5] (fun i => ∃ k : Nat, k ≤ n ∧ i = .int .i64 k ∧ Hid ((xs.take k).all isTypeB = true)) (fun i => n - (intOf i).toNat)
    case atStart => exact ⟨0, Nat.zero_le _, rfl, Lib.hid (by simp)⟩
    case round =>
      obtain ⟨k, hk, rfl, HT⟩ := hrel
      by_cases hlt : k < n
      · obtain ⟨b1, o1, u1, rfl, hb1, hu1, hc1⟩ := hr.at_ hlt
        have h1 : k < xs.length := by rw [HN.out]; exact hlt
        obtain rfl : strV xs[k] = u1 := by simpa [h1] using hu1
        have hi1 := Lib.hid (fun w => hit.out k h1 w)
        rw [bs_list] at hi1
        unfold strV at hc1
        clear hu1
        by_cases ht : isTypeB xs[k] = true
        · rw [ht] at hi1
          have HT2 := Lib.hid (all_more h1 HT.out ht)
          clear ht
          go_wp2_with (first | (go_at_call 16; with_reducible refine (hi1.out _).mono ?_; rintro e w' ⟨rfl, rfl⟩))
          go_round
          case rel => exact ⟨k + 1, by omega, by go_num, HT2⟩
          case measure => first | (simp [intOf]; omega) | simp [intOf]
        · have ht' : isTypeB xs[k] = false := by simpa using ht
          rw [ht'] at hi1
          have HF := Lib.hid (makeF_arg (g := g.data.toList) hx5 h1 ht')
          clear ht ht'
          go_wp2_with (first | (go_at_call 16; with_reducible refine (hi1.out _).mono ?_; rintro e w' ⟨rfl, rfl⟩))
          go_ret
          exact ⟨ret_int (by rw [HF.out]; rfl), rfl⟩
      · obtain rfl : k = n := by omega
        have HA := Lib.hid (show xs.all isTypeB = true by
          have h := HT.out
          rwa [List.take_of_length_le (by rw [HN.out]; exact Nat.le_refl _)] at h)
        by_cases hT : isTypeB g.data.toList = true
        · have HF := Lib.hid (makeF_ok hx5 HA.out (resultB_T hT))
          rw [hT] at hig
          clear hT
          go_wp2_with (first | (go_at_call 16; with_reducible refine (hig.out _).mono ?_; rintro e w' ⟨rfl, rfl⟩))
          all_goals
            go_ret
            exact ⟨ret_int (by rw [HF.out]; rfl), rfl⟩
        · have hT' : isTypeB g.data.toList = false := by simpa using hT
          rw [hT'] at hig
          have HY := Lib.hid (fun hv => makeF_ok (g := g.data.toList) hx5 HA.out (resultB_V hv))
          have HX := Lib.hid (fun hv => makeF_res (g := g.data.toList) hx5 (by simpa using resultB_N hv hT'))
          clear hT hT'
          go_wp2_with (first | (go_at_call 16; with_reducible refine (hig.out _).mono ?_; rintro e w' ⟨rfl, rfl⟩))
          all_goals
            go_ret
          · have hv : ¬ g.toList = [86] := by assumption
            rw [ByteArray.toList_eq] at hv
            exact ⟨ret_int (by rw [HX.out hv]; rfl), rfl⟩
          · have hv : g.toList = [86] := by assumption
            rw [ByteArray.toList_eq] at hv
            exact ⟨ret_int (by rw [HY.out hv]; rfl), rfl⟩

theorem cat_size (a b : List UInt8) : (bs a).size + (bs b).size = (a ++ b).length := by simp [bs_size]
theorem bs_cat (a b : List UInt8) : bs a ++ bs b = bs (a ++ b) := by
  apply ByteArray.ext
  simp [bs, ByteArray.data_append]
theorem flat_more {xs : List (List UInt8)} {k : Nat} (hk : k < xs.length) : (xs.take (k + 1)).flatten = (xs.take k).flatten ++ xs[k] := by
  rw [List.take_succ_eq_append_getElem hk, List.flatten_append]; simp only [List.flatten_cons, List.flatten_nil, List.append_nil]
theorem text_more {xs : List (List UInt8)} {k : Nat} (hk : k < xs.length) : bs (40 :: (xs.take k).flatten) ++ bs xs[k] = bs (40 :: (xs.take (k + 1)).flatten) := by
  rw [bs_cat, flat_more hk]; rfl
theorem text_end (xs : List (List UInt8)) (g : ByteArray) : bs (40 :: xs.flatten) ++ ⟨#[41]⟩ ++ g = bs (makeText xs g.data.toList) := by
  show bs (40 :: xs.flatten) ++ bs [41] ++ bs g.data.toList = _
  rw [bs_cat, bs_cat, makeText]; simp
theorem flat_part {xs : List (List UInt8)} (h5 : xs.length ≤ 5) (ha : ∀ x ∈ xs, isTypeB x = true) (k : Nat) : (xs.take k).flatten.length ≤ 125 := by
  have := flat_le (xs.take k) (fun x hx => isTypeB_le (ha x (List.mem_of_mem_take hx)))
  simp at this ⊢
  omega
set_option maxHeartbeats 1000000 in
theorem methodText_any (A : Option Addr) (n c : Nat) (xs : List (List UInt8)) (g : ByteArray) (w : World) (hr : Row w A n c (xs.map strV)) (h5 : xs.length ≤ 5) (ha : ∀ x ∈ xs, isTypeB x = true) (hg : g.size ≤ 140737488351232) :
    Calls Try.prog 25 #[.slice A n c, .string g] w fun e w' => e = .returned (.string (bs (makeText xs g.data.toList))) ∧ w = w' := by
  have hn : xs.length = n := by simpa using hr.1
  have HP := Lib.hid (flat_part h5 ha)
  have HN := Lib.hid hn
  have hn5 : n ≤ 5 := by omega
  clear hn h5
  go_enter Try.func25, Try.ntmps25
  go_wp2
  go_loop [5, 6] (fun t i => ∃ k : Nat, k ≤ n ∧ i = .int .i64 k ∧ t = .string (bs (40 :: (xs.take k).flatten))) (fun _ i => n - (intOf i).toNat)
  case atStart => exact ⟨0, Nat.zero_le _, rfl, rfl⟩
  case round =>
    obtain ⟨k, hk, rfl, rfl⟩ := hrel
    have hp := HP.out k
    by_cases hlt : k < n
    · obtain ⟨b1, o1, u1, rfl, hb1, hu1, hc1⟩ := hr.at_ hlt
      have h1 : k < xs.length := by rw [HN.out]; exact hlt
      obtain rfl : strV xs[k] = u1 := by simpa [h1] using hu1
      have hs1 := isTypeB_le (ha _ (List.getElem_mem h1))
      have hs2 : (bs (40 :: (xs.take k).flatten)).size ≤ 126 := by rw [bs_size]; simp only [List.length_cons]; omega
      have hs3 : (bs xs[k]).size ≤ 25 := by rw [bs_size]; exact hs1
      unfold strV at hc1
      have HM := Lib.hid (text_more h1)
      clear hu1 hs1
      go_wp2
      go_round
      case rel => exact ⟨k + 1, by omega, by go_num, by rw [HM.out]⟩
      case measure => first | (simp [intOf]; omega) | simp [intOf]
    · obtain rfl : k = n := by omega
      have HA := Lib.hid (show xs.take k = xs by rw [List.take_of_length_le (by rw [HN.out]; exact Nat.le_refl _)])
      have hs2 : (bs (40 :: (xs.take k).flatten)).size ≤ 126 := by rw [bs_size]; simp only [List.length_cons]; omega
      go_wp2
      go_ret
      exact ⟨by rw [HA.out, text_end]; rfl, rfl⟩

theorem join_any (A : Option Addr) (n c : Nat) (xs : List (List UInt8)) (w : World) (hr : Row w A n c (xs.map strV)) (h5 : xs.length ≤ 5) (ha : ∀ x ∈ xs, isTypeB x = true) :
    Calls Try.prog 37 #[.slice A n c, .string ⟨#[]⟩] w fun e w' => e = .returned (.string (bs xs.flatten)) ∧ Below w.heap.size w w' := by
  have hn : xs.length = n := by simpa using hr.1
  have hp := flat_part h5 ha xs.length
  rw [List.take_length] at hp
  by_cases h0 : n = 0
  · subst h0
    have : xs = [] := List.eq_nil_of_length_eq_zero hn
    subst this
    refine (Try.strings_Join_none A c ⟨#[]⟩ w).mono ?_
    rintro e w' ⟨rfl, rfl⟩
    exact ⟨rfl, Below.refl _ _⟩
  · obtain ⟨b, o, rfl, hb, hc⟩ := hr.2.2 (by omega)
    subst hn
    have hm : (xs.map bs).map (·.data.toList) = xs := by rw [List.map_map]; exact (List.map_congr_left (fun _ _ => rfl)).trans (List.map_id _)
    have hl : (xs.map bs).length = xs.length := List.length_map ..
    have hj : Lib.join ((xs.map bs).map (·.data.toList)) (⟨#[]⟩ : ByteArray).data.toList = xs.flatten := by rw [hm]; exact join_flat xs
    have h := Try.strings_Join b o c (xs.map bs) ⟨#[]⟩ w (fun j x hx => hc j _ (by
        rw [List.getElem?_map] at hx ⊢
        cases hxj : xs[j]? with
        | none => rw [hxj] at hx; cases hx
        | some y => rw [hxj] at hx; obtain rfl : bs y = x := by simpa using hx
                    rfl)) hb (by rw [hl]; omega) (by rw [hl]; exact hr.2.1) (by rw [hj]; omega)
    rw [hl, hj] at h
    exact h

def makeT (xs : List (List UInt8)) (g : List UInt8) : List UInt8 := if makeF xs g = 0 then makeText xs g else []
theorem makeT_ok {xs : List (List UInt8)} {g : List UInt8} (h : makeF xs g = 0) : makeT xs g = makeText xs g := by rw [makeT, if_pos h]
theorem makeT_no {xs : List (List UInt8)} {g : List UInt8} {n : Nat} (hn : n ≠ 0) (h : makeF xs g = n) : makeT xs g = [] := by rw [makeT, if_neg (by rw [h]; exact hn)]
theorem typeF_any {xs : List (List UInt8)} {k : Nat} (h : k < xs.length) : typeF (bs xs[k]).data.toList = typeF xs[k] := rfl
theorem make_end (xs : List (List UInt8)) (g : ByteArray) : (⟨#[40]⟩ : ByteArray) ++ bs xs.flatten ++ ⟨#[41]⟩ ++ g = bs (makeText xs g.data.toList) := by
  rw [← text_end]
  show bs [40] ++ bs xs.flatten ++ bs [41] ++ g = _
  rw [bs_cat]; rfl
theorem ret_make {xs : List (List UInt8)} {g : List UInt8} {s : ByteArray} {v : Value} (h : makeF xs g = 0 ∧ v = .nilIface ∧ s = bs (makeText xs g) ∨ (∃ n, n ≠ 0 ∧ makeF xs g = n ∧ v = errV n ∧ s = ⟨#[]⟩)) :
    Ending.returned (.tuple #[.string s, v]) = .returned (.tuple #[.string (bs (makeT xs g)), errV (makeF xs g)]) := by
  rcases h with ⟨h, rfl, rfl⟩ | ⟨n, hn, h, rfl, rfl⟩
  · rw [makeT_ok h, h]; rfl
  · rw [makeT_no hn h, h]; rfl
set_option maxHeartbeats 1000000 in
theorem make_any (A : Option Addr) (n c : Nat) (xs : List (List UInt8)) (g : ByteArray) (w : World) (hr : Row w A n c (xs.map strV)) (hx : Sizes xs) (hg : g.size ≤ 140737488351232) :
    Calls Try.prog 24 #[.slice A n c, .string g] w fun e w' => e = .returned (.tuple #[.string (bs (makeT xs g.data.toList)), errV (makeF xs g.data.toList)]) ∧ Below w.heap.size w w' := by
  have hn : xs.length = n := by simpa using hr.1
  have hit := Lib.hid (fun (k : Nat) (h : k < xs.length) w => dcheck_any (bs xs[k]) w (by rw [bs_size]; exact hx _ (List.getElem_mem h)))
  have hig := Lib.hid (fun w => isResult_any g w (by unfold maxLen; omega))
  have HR := Lib.hid hr
  by_cases h5 : 5 < n
  · have h5i : 5 < (n : Int) := by omega
    have HF := Lib.hid (makeF_full (xs := xs) (g := g.data.toList) (by omega))
    clear hn
    go_enter Try.func24, Try.ntmps24
    go_wp2
    go_ret2
    exact ⟨ret_make (.inr ⟨4, by omega, HF.out, rfl, rfl⟩), Below.refl _ _⟩
  · have h5i : ¬ 5 < (n : Int) := by omega
    have hx5 : ¬ 5 < xs.length := by omega
    have HN := Lib.hid hn
    clear hn
    go_enter Try.func24, Try.ntmps24
    go_wp2
    go_loop [15] (fun i => ∃ k : Nat, k ≤ n ∧ i = .int .i64 k ∧ Hid ((xs.take k).all isTypeB = true)) (fun i => n - (intOf i).toNat)
    case atStart => exact ⟨0, Nat.zero_le _, rfl, Lib.hid (by simp)⟩
    case round =>
      obtain ⟨k, hk, rfl, HT⟩ := hrel
      by_cases hlt : k < n
      · obtain ⟨b1, o1, u1, rfl, hb1, hu1, hc1⟩ := hr.at_ hlt
        have h1 : k < xs.length := by rw [HN.out]; exact hlt
        obtain rfl : strV xs[k] = u1 := by simpa [h1] using hu1
        have hi1 := Lib.hid (fun w => hit.out k h1 w)
        rw [typeF_any h1] at hi1
        unfold strV at hc1
        clear hu1
        by_cases ht : isTypeB xs[k] = true
        · rw [typeF_yes ht] at hi1
          have HT2 := Lib.hid (all_more h1 HT.out ht)
          clear ht
          go_wp2_with (first | (go_at_call 17; with_reducible refine (hi1.out _).mono ?_; rintro e w' ⟨rfl, rfl⟩))
          go_round
          case rel => exact ⟨k + 1, by omega, by go_num, HT2⟩
          case measure => first | (simp [intOf]; omega) | simp [intOf]
        · have ht' : isTypeB xs[k] = false := by simpa using ht
          rw [typeF_no ht'] at hi1
          have HF := Lib.hid (makeF_arg (g := g.data.toList) hx5 h1 ht')
          clear ht ht'
          go_wp2_with (first | (go_at_call 17; with_reducible refine (hi1.out _).mono ?_; rintro e w' ⟨rfl, rfl⟩))
          go_ret2
          exact ⟨ret_make (.inr ⟨1, by omega, HF.out, rfl, rfl⟩), Below.refl _ _⟩
      · obtain rfl : k = n := by omega
        have HA := Lib.hid (show xs.all isTypeB = true by
          have h := HT.out
          rwa [List.take_of_length_le (by rw [HN.out]; exact Nat.le_refl _)] at h)
        have HA2 := Lib.hid (fun x hx => (List.all_eq_true.1 HA.out) x hx)
        have hj := Lib.hid (fun w' hr' => join_any A k c xs w' hr' (by omega) HA2.out)
        have hfl := flat_part (by omega) HA2.out xs.length
        rw [List.take_length] at hfl
        have hs2 : (bs xs.flatten).size ≤ 125 := by rw [bs_size]; exact hfl
        clear hfl
        by_cases hT : resultB g.data.toList = true
        · have HF := Lib.hid (makeF_ok hx5 HA.out hT)
          rw [hT] at hig
          clear hT
          go_wp2_with (first
            | (go_at_call 36; with_reducible refine (hig.out _).mono ?_; rintro e w' ⟨rfl, rfl⟩)
            | (go_at_call 37; with_reducible refine (hj.out _ HR.out).mono ?_; rintro e w' ⟨rfl, hb⟩))
          go_ret2
          exact ⟨ret_make (.inl ⟨HF.out, rfl, make_end _ _⟩), hb⟩
        · have hT' : resultB g.data.toList = false := by simpa using hT
          rw [hT'] at hig
          have HF := Lib.hid (makeF_res hx5 hT')
          clear hT hT'
          go_wp2_with (first | (go_at_call 36; with_reducible refine (hig.out _).mono ?_; rintro e w' ⟨rfl, rfl⟩))
          go_ret2
          exact ⟨ret_make (.inr ⟨1, by omega, HF.out, rfl, rfl⟩), Below.refl _ _⟩
end Go.Proofs.Ytkgadpaganhngaa
