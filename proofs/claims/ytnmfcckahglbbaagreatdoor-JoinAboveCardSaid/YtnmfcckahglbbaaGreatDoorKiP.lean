/- Package sub says what it must. -/
import Derived.Test.YtnmfcckahglbbaaGreatDoorKiK
import Derived.Test.YtnmfcckahglbbaaGreatDoorGB
import Derived.Test.YtnmfcckahglbbaaGreatDoorShelf
import Derived.Test.YtnmfcckahglbbaaGreatDoorWpH
import Derived.Test.YtnmfcckahglbbaaGreatDoorWoH
namespace Go.Proofs.YtnmfcckahglbbaaGreatDoor
open Go.ChangeShapes Go.WideShapes Go.ChangeAt Go.RowKit
set_option linter.unusedVariables false
attribute [local go_sem] eqGuard_errV_nil eqGuard_errV_iface eql_errV_nil neq_errV_nil eql_errV_form

theorem contains_strs (A : Option Addr) (n c : Nat) (s : List (List UInt8)) (x : List UInt8) (w : World) (R : StrRow w A n c s) (hn : n ≤ 1099511627776) :
    Calls Tryz.prog 50 #[.slice A n c, .string (bs x)] w fun e w' => e = .returned (.bool (s.any (· == x))) ∧ w = w' := by
  have hl : s.length = n := R.1
  rcases Nat.eq_zero_or_pos n with rfl | hp
  · obtain rfl : s = [] := List.eq_nil_of_length_eq_zero hl
    exact (Tryz.slices_Contains_string_empty A c (bs x) w).mono fun _ _ ⟨h1, h2⟩ => ⟨h1, h2.symm⟩
  · obtain ⟨b, o, rfl, hb, hc⟩ := R.2.2 hp
    refine (Tryz.slices_Contains_string b o n c (s.map bs) (bs x) w (by simp [hl]) (by omega) (fun j hj => ?_)).mono fun _ _ ⟨h1, h2⟩ => ⟨?_, h2.symm⟩
    · have hj' : j < s.length := by simpa using hj
      have := hc j s[j] (by simp [hj'])
      rw [Nat.mul_one] at this
      rw [this]
      simp [List.getD, hj']
    · rw [h1]
      apply ret_bool
      rw [List.take_of_length_le (by simp [hl]), Bool.eq_iff_iff, Lib.containsS_iff, any_mem, List.mem_map]
      constructor
      · rintro ⟨y, hy, he⟩
        have : y = x := by
          have := congrArg (fun z => z.data.toList) he
          simpa [bs_list] using this
        rw [← this]; exact hy
      · exact fun h => ⟨x, h, rfl⟩

theorem isClass_any (y : List UInt8) (w : World) : Calls Tryz.prog 46 #[.string (bs y)] w fun e w' => e = .returned (.bool (headB 76 y)) ∧ w = w' := by
  have H := Lib.hid (fun w => hasPrefix_any (bs y) 76 w)
  simp only [bs_list] at H
  go_enter Tryz.func46, Tryz.ntmps46
  go_wp2_with (go_at_call 59; (with_reducible refine (H.out _).mono ?_); rintro e w1 ⟨rfl, rfl⟩)
  go_ret
  exact ⟨rfl, rfl⟩
theorem isArray_any (y : List UInt8) (w : World) : Calls Tryz.prog 49 #[.string (bs y)] w fun e w' => e = .returned (.bool (headB 91 y)) ∧ w = w' := by
  have H := Lib.hid (fun w => hasPrefix_any (bs y) 91 w)
  simp only [bs_list] at H
  go_enter Tryz.func49, Tryz.ntmps49
  go_wp2_with (go_at_call 59; (with_reducible refine (H.out _).mono ?_); rintro e w1 ⟨rfl, rfl⟩)
  go_ret
  exact ⟨rfl, rfl⟩
theorem className_any (n : List UInt8) (hn : n.length ≤ 1000) (w : World) : Calls Tryz.prog 48 #[.string (bs (76 :: (n ++ [59])))] w fun e w' => e = .returned (.string (bs n)) ∧ w = w' := by
  have hsz : (bs (76 :: (n ++ [59]))).size = n.length + 2 := by rw [bs_size]; simp
  have HX := Lib.hid (show (bs (76 :: (n ++ [59]))).extract 1 ((bs (76 :: (n ++ [59]))).size - 1) = bs n from by
    rw [ext_bs, hsz]
    congr 1
    rw [show n.length + 2 - 1 = n.length + 1 by omega, List.take_succ_cons, List.take_left]
    rfl)
  generalize bs (76 :: (n ++ [59])) = s at *
  have h5 : 1 ≤ s.size - 1 := by omega
  have h6 : s.size ≤ 1100 := by omega
  have h7 : 1 ≤ s.size := by omega
  have hwr : IntKind.i64.wrap ((s.size : Int) - 1) = ((s.size - 1 : Nat) : Int) := by rw [IntKind.wrap_i64]; omega
  clear hsz hn
  go_enter Tryz.func48, Tryz.ntmps48
  go_wp2
  go_ret
  exact ⟨by show _ = Ending.returned (.string (bs n)); rw [← HX.out]; rfl, rfl⟩

def kindB (y : List UInt8) : Bool := y == [78] || y == [84] || isTypeB y
theorem kindE_one {l : List ClassD} {y : List UInt8} : kindE l y = 1 ↔ kindB y = false := by
  unfold kindE kindB
  by_cases h1 : y = [78]
  · simp [h1]
  by_cases h2 : y = [84]
  · simp [h2]
  rw [if_neg (fun h => h.elim h1 h2)]
  cases h3 : isTypeB y with
  | false => simp [h1, h2]
  | true =>
    rw [if_neg (by simp)]
    split <;> simp
set_option maxRecDepth 20000 in
theorem isKind_any (y : List UInt8) (hy : y.length ≤ 140737488355328) (w : World) : Calls Tryz.prog 26 #[.string (bs y)] w fun e w' => e = .returned (.bool (kindB y)) ∧ w = w' := by
  have HZ := fun w => dcheck_any (bs y) w (by rw [bs_size]; unfold maxLen; omega)
  simp only [bs_list] at HZ
  by_cases h1 : y = [78]
  · have e1 : ((bs y).toList == [78]) = true := lst_yes h1
    have HV := Lib.hid (show kindB y = true by simp [kindB, h1])
    clear h1 HZ
    go_enter Tryz.func26, Tryz.ntmps26
    go_wp2
    go_ret
    exact ⟨ret_bool HV.out.symm, rfl⟩
  have e1 : ((bs y).toList == [78]) = false := lst_no h1
  by_cases h2 : y = [84]
  · have e2 : ((bs y).toList == [84]) = true := lst_yes h2
    have HV := Lib.hid (show kindB y = true by simp [kindB, h2])
    clear h1 h2 HZ
    go_enter Tryz.func26, Tryz.ntmps26
    go_wp2
    go_ret
    exact ⟨ret_bool HV.out.symm, rfl⟩
  have e2 : ((bs y).toList == [84]) = false := lst_no h2
  cases ht : isTypeB y with
  | true =>
    rw [typeF_yes ht] at HZ
    replace HZ := Lib.hid HZ
    have HV := Lib.hid (show kindB y = true by simp [kindB, ht])
    clear h1 h2 ht
    go_enter Tryz.func26, Tryz.ntmps26
    go_wp2_with (first
      | (go_at_call 44; (with_reducible refine (HZ.out _).mono ?_); rintro e w1 ⟨rfl, rfl⟩))
    go_ret
    exact ⟨ret_bool HV.out.symm, rfl⟩
  | false =>
    rw [typeF_no ht] at HZ
    replace HZ := Lib.hid HZ
    have HV := Lib.hid (show kindB y = false by simp [kindB, ht, h1, h2])
    clear h1 h2 ht
    go_enter Tryz.func26, Tryz.ntmps26
    go_wp2_with (first
      | (go_at_call 44; (with_reducible refine (HZ.out _).mono ?_); rintro e w1 ⟨rfl, rfl⟩))
    go_ret
    exact ⟨ret_bool HV.out.symm, rfl⟩

/-- A kind without its brackets. -/
def KindD.item : KindD → List UInt8
  | .nul => [78]
  | .top => [84]
  | .word _ c => [c]
  | .cls _ n => 76 :: (n ++ [59])
theorem trim_text {k : KindD} (hk : k.ok) : Lib.trimLeftB k.text 91 = k.item := by
  have hb : ∀ (d : Nat) (c : UInt8) (r : List UInt8), c ≠ 91 → Lib.trimLeftB (brksL d ++ c :: r) 91 = c :: r := by
    intro d c r hc
    unfold Lib.trimLeftB brksL
    induction d with
    | zero => simp [hc]
    | succ d ih =>
      rw [List.replicate_succ, List.cons_append, List.dropWhile_cons_of_pos (by decide)]
      exact ih
  cases k with
  | nul => rfl
  | top => rfl
  | word d c => exact hb d c [] (by rcases hk.2 with rfl | rfl <;> decide)
  | cls d n => exact hb d 76 (n ++ [59]) (by decide)
theorem trim_any {k : KindD} (hk : k.ok) (w : World) : Calls Tryz.prog 45 #[.string (bs k.text), .string ⟨#[91]⟩] w fun e w' => e = .returned (.string (bs k.item)) ∧ w = w' :=
  (Tryz.strings_TrimLeft_one (bs k.text) 91 (by decide) w).mono fun _ _ ⟨he, hw⟩ => ⟨by rw [he, bs_list, trim_text hk]; rfl, hw.symm⟩

set_option maxRecDepth 20000 in
set_option maxHeartbeats 4000000 in
theorem allAbove_any (l : List ClassD) (hq : WorldIs l 0) (k : KindD) (hk : k.ok) (A : Option Addr) (n c : Nat) (w : World) (T : Tab w) (R : ClassRow w A n c l) (hA : A = none → n = 0 ∧ c = 0) (hu : ∀ x ∈ l, x.upto 140737488351232) (hw : ∀ x ∈ l, x.wf) (hn : n ≤ 140737488351232) :
    Calls Tryz.prog 27 #[.slice A n c, .string (bs k.text)] w fun e w' => ∃ v s, e = .returned (.tuple #[v, errV (kindE l k.text)]) ∧ Own w' w.heap.size v s ∧ s.length ≤ 13 ∧ (k.name ≠ [] → kindE l k.text = 0 → Sorted l k.name s) ∧ Below w.heap.size w w' := by
  have HT := Lib.hid (fun w => trim_any hk w)
  have HV := kindE_text (w := l) hk
  have hnone : ∀ (h : headB 76 k.item = false) (h2 : k.name = []), Calls Tryz.prog 27 #[.slice A n c, .string (bs k.text)] w fun e w' => ∃ v s, e = .returned (.tuple #[v, errV (kindE l k.text)]) ∧ Own w' w.heap.size v s ∧ s.length ≤ 13 ∧ (k.name ≠ [] → kindE l k.text = 0 → Sorted l k.name s) ∧ Below w.heap.size w w' := by
    intro h h2
    have HC := fun w => isClass_any k.item w
    rw [h] at HC
    replace HC := Lib.hid HC
    rw [if_neg (fun h => h.1 h2)] at HV
    replace HV := Lib.hid HV
    replace h2 := Lib.hid h2
    clear hq hk T R hA hu hw hn h
    go_enter Tryz.func27, Tryz.ntmps27
    go_wp2_with (first
      | (go_at_call 45; (with_reducible refine (HT.out _).mono ?_); rintro e w1 ⟨rfl, rfl⟩)
      | (go_at_call 46; (with_reducible refine (HC.out _).mono ?_); rintro e w1 ⟨rfl, rfl⟩))
    go_ret2
    exact ⟨_, [], by rw [HV.out]; rfl, Own.nil_ _ _, Nat.zero_le _, fun h => absurd h2.out h, Below.refl _ _⟩
  cases k with
  | nul => exact hnone rfl rfl
  | top => exact hnone rfl rfl
  | word d y => exact hnone (by rcases hk.2 with rfl | rfl <;> rfl) rfl
  | cls d m =>
    have hm20 := name_len hk.2
    have hmne : m ≠ [] := fun e => by have := hk.2; rw [e] at this; cases this
    have HC := Lib.hid (fun w => isClass_any (76 :: (m ++ [59])) w)
    have HN := Lib.hid (fun w => className_any m (by omega) w)
    have HAll := world_alls l 0 m A n c w hq T R hA hu hw hn (by omega)
    have hz : namedQ l 0 m = kindE l (KindD.cls d m).text := by
      rw [HV]
      unfold namedQ
      cases hb : knownB l m <;> simp [KindD.name, hmne, hb]
    rw [hz] at HAll
    replace HAll := Lib.hid HAll
    clear hz HV hnone hq hk T R hA hu hw hn hm20
    generalize kindE l (KindD.cls d m).text = q at *
    show Calls _ _ _ _ fun e w' => ∃ v s, e = .returned (.tuple #[v, errV q]) ∧ Own w' w.heap.size v s ∧ s.length ≤ 13 ∧ (m ≠ [] → q = 0 → Sorted l m s) ∧ Below w.heap.size w w'
    unfold KindD.item at HT
    replace hmne := Lib.hid hmne
    unfold headB at HC
    go_enter Tryz.func27, Tryz.ntmps27
    go_wp2_with (first
      | (go_at_call 45; (with_reducible refine (HT.out _).mono ?_); rintro e w1 ⟨rfl, rfl⟩)
      | (go_at_call 46; (with_reducible refine (HC.out _).mono ?_); rintro e w1 ⟨rfl, rfl⟩)
      | (go_at_call 48; (with_reducible refine (HN.out _).mono ?_); rintro e w1 ⟨rfl, rfl⟩)
      | (go_at_call 47; (with_reducible refine HAll.out.mono ?_); rintro e w2 ⟨v, s, rfl, ho, hs, _, hl, hb⟩
         have HO := Lib.hid ho
         have HS := Lib.hid hs
         have HL := Lib.hid hl
         have HB := Lib.hid hb
         clear ho hs hl hb))
    go_ret2
    exact ⟨v, s, rfl, HO.out, HL.out, fun _ h => HS.out h, HB.out⟩

def KindD.isCls : KindD → Bool
  | .cls 0 _ => true
  | _ => false
theorem head_cls {k : KindD} (hk : k.ok) : headB 76 k.text = k.isCls := by
  cases k with
  | nul => rfl
  | top => rfl
  | word d c =>
    cases d with
    | zero => rcases hk.2 with rfl | rfl <;> rfl
    | succ d => rfl
  | cls d n => cases d <;> rfl
theorem head_arr {k : KindD} (hk : k.ok) : headB 91 k.text = decide (0 < k.depth) := by
  cases k with
  | nul => rfl
  | top => rfl
  | word d c =>
    cases d with
    | zero => rcases hk.2 with rfl | rfl <;> rfl
    | succ d => simp [KindD.depth, KindD.text, brksL, List.replicate_succ, headB]
  | cls d n =>
    cases d with
    | zero => rfl
    | succ d => simp [KindD.depth, KindD.text, brksL, List.replicate_succ, headB]
theorem isCls_is {k : KindD} (h : k.isCls = true) : ∃ n, k = .cls 0 n := by
  cases k with
  | nul => cases h
  | top => cases h
  | word d c => cases h
  | cls d n =>
    cases d with
    | zero => exact ⟨n, rfl⟩
    | succ d => cases h
theorem fits_deep {l : List ClassD} {a b : KindD} (ha : 0 < a.depth) (hb : 0 < b.depth) : FitsD l a b ↔ FitsD l a.elem b.elem := by
  cases a with
  | nul => cases ha
  | top => cases ha
  | word d c =>
    have h1 : 0 < d := ha
    cases b with
    | nul => cases hb
    | top => cases hb
    | word e z =>
      have h2 : 0 < e := hb
      show (d = e ∧ c = z) ↔ (d - 1 = e - 1 ∧ c = z)
      exact ⟨fun h => ⟨by omega, h.2⟩, fun h => ⟨by omega, h.2⟩⟩
    | cls e n =>
      have h2 : 0 < e := hb
      show (n = objB ∧ e < d) ↔ (n = objB ∧ e - 1 < d - 1)
      exact ⟨fun h => ⟨h.1, by omega⟩, fun h => ⟨h.1, by omega⟩⟩
  | cls d m =>
    have h1 : 0 < d := ha
    cases b with
    | nul => cases hb
    | top => cases hb
    | word e z => exact Iff.rfl
    | cls e n =>
      have h2 : 0 < e := hb
      show ((d = e ∧ _) ∨ (e < d ∧ n = objB)) ↔ ((d - 1 = e - 1 ∧ _) ∨ (e - 1 < d - 1 ∧ n = objB))
      constructor
      · rintro (⟨h3, h4⟩ | ⟨h3, h4⟩)
        · exact .inl ⟨by omega, h4⟩
        · exact .inr ⟨by omega, h4⟩
      · rintro (⟨h3, h4⟩ | ⟨h3, h4⟩)
        · exact .inl ⟨by omega, h4⟩
        · exact .inr ⟨by omega, h4⟩
theorem up_obj {l : List ClassD} (hV : Valid l) {m : List UInt8} (hk : knownB l m = true) : objB = m ∨ Up l m objB := by
  obtain ⟨s, hs, _⟩ := chain_is hV hk
  obtain ⟨t, rfl⟩ := hs.last hV.1
  exact hs.mem objB (by simp)
theorem fits_cls {l : List ClassD} (hV : Valid l) {m n : List UInt8} (hk : knownB l m = true) : FitsD l (.cls 0 m) (.cls 0 n) ↔ n = m ∨ Up l m n := by
  show ((0 = 0 ∧ (m = n ∨ n = objB ∨ Up l m n)) ∨ (0 < 0 ∧ n = objB)) ↔ _
  constructor
  · rintro (⟨_, rfl | rfl | h⟩ | ⟨h, _⟩)
    · exact .inl rfl
    · exact up_obj hV hk
    · exact .inr h
    · omega
  · rintro (rfl | h)
    · exact .inl ⟨rfl, .inl rfl⟩
    · exact .inl ⟨rfl, .inr (.inr h)⟩
/-- Neither two classes nor two arrays. -/
theorem fits_else {l : List ClassD} {a b : KindD} (hbt : b ≠ .top) (hab : a ≠ b) (han : a ≠ .nul) (h1 : a.isCls = false ∨ b.isCls = false) (h2 : a.depth = 0 ∨ b.depth = 0) : FitsD l a b ↔ 0 < a.depth ∧ b = .cls 0 objB := by
  cases a with
  | nul => exact absurd rfl han
  | top =>
    cases b with
    | top => exact absurd rfl hbt
    | nul => exact ⟨fun h => h.elim, fun h => absurd h.1 (by decide)⟩
    | word e z => exact ⟨fun h => h.elim, fun h => absurd h.1 (by decide)⟩
    | cls e n => exact ⟨fun h => h.elim, fun h => absurd h.1 (by decide)⟩
  | word d c =>
    cases b with
    | top => exact absurd rfl hbt
    | nul => exact ⟨fun h => h.elim, fun h => by cases h.2⟩
    | word e z => exact ⟨fun h => absurd (show KindD.word d c = .word e z by rw [h.1, h.2]) hab, fun h => by cases h.2⟩
    | cls e n =>
      show (n = objB ∧ e < d) ↔ (0 < d ∧ _)
      constructor
      · rintro ⟨rfl, h⟩
        have he : e = 0 := by
          rcases h2 with h2 | h2
          · have : d = 0 := h2
            omega
          · exact h2
        subst he
        exact ⟨h, rfl⟩
      · rintro ⟨h, h3⟩
        cases h3
        exact ⟨rfl, h⟩
  | cls d m =>
    cases b with
    | top => exact absurd rfl hbt
    | nul => exact ⟨fun h => h.elim, fun h => by cases h.2⟩
    | word e z => exact ⟨fun h => h.elim, fun h => by cases h.2⟩
    | cls e n =>
      show ((d = e ∧ _) ∨ (e < d ∧ n = objB)) ↔ (0 < d ∧ _)
      constructor
      · rintro (⟨rfl, h⟩ | ⟨h, rfl⟩)
        · exfalso
          have : d = 0 := h2.elim id id
          subst this
          rcases h1 with h1 | h1 <;> cases h1
        · have he : e = 0 := by
            rcases h2 with h2 | h2
            · have : d = 0 := h2
              omega
            · exact h2
          subst he
          exact ⟨h, rfl⟩
      · rintro ⟨h, h3⟩
        cases h3
        exact .inr ⟨h, rfl⟩

theorem quiet_on {P : Program} {f : FuncId} {args : Array Value} {w : World} {n : Nat} {u : Value} (h : Calls P f args (w.drewN n) fun e w' => e = .returned u ∧ ∃ k, w' = (w.drewN n).drewN k) :
    Calls P f args (w.drewN n) fun e w'' => e = .returned u ∧ ∃ m, w'' = w.drewN m := h.mono fun _ _ ⟨he, k, hm⟩ => ⟨he, n + k, by rw [hm, World.drewN_drewN]⟩
set_option maxRecDepth 20000 in
set_option maxHeartbeats 8000000 in
theorem sfits_any (l : List ClassD) (hV : Valid l) (s : List (List UInt8)) (A : Option Addr) (n c : Nat) (hs : s.length ≤ 13) : ∀ (d : Nat) (a b : KindD), a.depth = d → a.ok → b.ok → (a.name ≠ [] → knownB l a.name = true ∧ ∀ x, x ∈ s ↔ x = a.name ∨ Up l a.name x) → ∀ (β : Bool), (β = true ↔ FitsD l a b) → ∀ (w : World), StrRow w A n c s →
    Calls Tryz.prog 28 #[.slice A n c, .string (bs a.text), .string (bs b.text)] w fun e w' => e = .returned (.bool β) ∧ ∃ k, w' = w.drewN k := by
  intro d
  induction d using Nat.strongRecOn with
  | _ d ih =>
  intro a b hd ha hb hk β hβ w R
  have HR := Lib.hid R
  have HCa := fun w => isClass_any a.text w
  have HCb := fun w => isClass_any b.text w
  have HAa := fun w => isArray_any a.text w
  have HAb := fun w => isArray_any b.text w
  rw [head_cls ha] at HCa
  rw [head_cls hb] at HCb
  rw [head_arr ha] at HAa
  rw [head_arr hb] at HAb
  by_cases hbt : b = .top
  · subst hbt
    obtain rfl : β = true := hβ.2 (by cases a <;> exact trivial)
    have e1 : ((bs KindD.top.text).toList == [84]) = true := lst_yes rfl
    clear R ih hβ HCa HCb HAa HAb
    go_enter Tryz.func28, Tryz.ntmps28
    go_wp2
    go_ret
    exact ⟨rfl, 0, rfl⟩
  have e1 : ((bs b.text).toList == [84]) = false := lst_no (fun e => hbt (text_inj hb (j := .top) trivial e))
  by_cases hab : a = b
  · have e2 : ((bs a.text).toList == (bs b.text).toList) = true := by rw [hab]; simp
    obtain rfl : β = true := hβ.2 (by rw [hab]; exact FitsD.refl l b)
    clear R ih hβ hab hbt HCa HCb HAa HAb
    go_enter Tryz.func28, Tryz.ntmps28
    go_wp2
    go_ret
    exact ⟨rfl, 0, rfl⟩
  have e2 : ((bs a.text).toList == (bs b.text).toList) = false := str_ne_ (fun e => hab (text_inj ha hb e))
  by_cases han : a = .nul
  · have e3 : ((bs a.text).toList == [78]) = true := by rw [han]; exact lst_yes rfl
    have hcase : (b.isCls = true ∧ β = true) ∨ (b.isCls = false ∧ β = decide (0 < b.depth)) := by
      subst han
      cases b with
      | nul => exact absurd rfl hab
      | top => exact absurd rfl hbt
      | word e z =>
        refine .inr ⟨rfl, ?_⟩
        rw [Bool.eq_iff_iff, hβ]
        exact Iff.rfl
      | cls e z =>
        have hb1 : β = true := hβ.2 rfl
        cases e with
        | zero => exact .inl ⟨rfl, hb1⟩
        | succ e => exact .inr ⟨rfl, by rw [hb1]; exact (decide_eq_true (Nat.succ_pos e)).symm⟩
    rcases hcase with ⟨h1, rfl⟩ | ⟨h1, rfl⟩
    · rw [h1] at HCb
      replace HCb := Lib.hid HCb
      clear R ih hβ hab hbt han HCa HAa HAb h1
      go_enter Tryz.func28, Tryz.ntmps28
      go_wp2_with (first
        | (go_at_call 46; (with_reducible refine (HCb.out _).mono ?_); rintro e w1 ⟨rfl, rfl⟩))
      go_ret
      exact ⟨rfl, 0, rfl⟩
    · rw [h1] at HCb
      replace HCb := Lib.hid HCb
      generalize decide (0 < b.depth) = β at *
      replace HAb := Lib.hid HAb
      clear R ih hβ hab hbt han HCa HAa h1
      go_enter Tryz.func28, Tryz.ntmps28
      go_wp2_with (first
        | (go_at_call 46; (with_reducible refine (HCb.out _).mono ?_); rintro e w1 ⟨rfl, rfl⟩)
        | (go_at_call 49; (with_reducible refine (HAb.out _).mono ?_); rintro e w1 ⟨rfl, rfl⟩))
      go_ret
      exact ⟨rfl, 0, rfl⟩
  have e3 : ((bs a.text).toList == [78]) = false := lst_no (fun e => han (text_inj ha (j := .nul) trivial e))
  by_cases hcc : a.isCls = true ∧ b.isCls = true
  · obtain ⟨hca, hcb⟩ := hcc
    obtain ⟨m, rfl⟩ := isCls_is hca
    obtain ⟨z, rfl⟩ := isCls_is hcb
    obtain ⟨hkn, hmem⟩ := hk (fun e => by have := ha.2; rw [show m = [] from e] at this; cases this)
    have hz20 := name_len hb.2
    have HN := Lib.hid (fun w => className_any z (by omega) w)
    have HX := fun w R => contains_strs A n c s z w R (by have := R.1; omega)
    obtain rfl : β = s.any (· == z) := by
      rw [Bool.eq_iff_iff, hβ, fits_cls (m := m) (n := z) hV hkn, any_mem]
      exact (hmem z).symm
    rw [hca] at HCa
    rw [hcb] at HCb
    generalize s.any (· == z) = β at *
    replace HX := Lib.hid HX
    replace HCa := Lib.hid HCa
    replace HCb := Lib.hid HCb
    have hB : (KindD.cls 0 z).text = 76 :: (z ++ [59]) := rfl
    rw [hB] at HCb e1 e2 ⊢
    clear R ih hβ hab hbt han HAa HAb hca hcb hmem hkn hk ha hb hz20 hB hV
    generalize (KindD.cls 0 m).text = ta at *
    go_enter Tryz.func28, Tryz.ntmps28
    go_wp2_with (first
      | (go_at_call 46; (with_reducible refine (HCa.out _).mono ?_); rintro e w1 ⟨rfl, rfl⟩)
      | (go_at_call 46; (with_reducible refine (HCb.out _).mono ?_); rintro e w1 ⟨rfl, rfl⟩)
      | (go_at_call 48; (with_reducible refine (HN.out _).mono ?_); rintro e w1 ⟨rfl, rfl⟩)
      | (go_at_call 50; (with_reducible refine (HX.out _ HR.out).mono ?_); rintro e w1 ⟨rfl, rfl⟩))
    go_ret
    exact ⟨rfl, 0, rfl⟩
  by_cases hdd : 0 < a.depth ∧ 0 < b.depth
  · obtain ⟨da, db⟩ := hdd
    have hca : a.isCls = false := by
      cases h : a.isCls with
      | false => rfl
      | true => obtain ⟨m, rfl⟩ := isCls_is h; cases da
    obtain ⟨xa, ya⟩ := text_tail da
    obtain ⟨xb, yb⟩ := text_tail db
    have HRec := Lib.hid (fun W R => ih (d - 1) (by omega) a.elem b.elem (by rw [elem_depth, hd]) (elem_ok ha) (elem_ok hb) (by rw [elem_name]; exact hk) β (hβ.trans (fits_deep da db)) W R)
    rw [hca] at HCa
    rw [decide_eq_true da] at HAa
    rw [decide_eq_true db] at HAb
    replace HCa := Lib.hid HCa
    replace HAa := Lib.hid HAa
    replace HAb := Lib.hid HAb
    clear R ih hβ hab hbt han hca hk ha hb hV da db HCb hcc
    generalize bs a.text = sa at *
    generalize bs b.text = sb at *
    generalize bs a.elem.text = ea at *
    generalize bs b.elem.text = eb at *
    have ua := fun W => cut_text xa ya W
    have ub := fun W => cut_text xb yb W
    go_enter Tryz.func28, Tryz.ntmps28
    go_wp2_with (first
      | (go_at_call 46; (with_reducible refine (HCa.out _).mono ?_); rintro e w1 ⟨rfl, rfl⟩)
      | (go_at_call 49; (with_reducible refine (HAa.out _).mono ?_); rintro e w1 ⟨rfl, rfl⟩)
      | (go_at_call 49; (with_reducible refine (HAb.out _).mono ?_); rintro e w1 ⟨rfl, rfl⟩))
    go_quiet ((go_at_call 28; exact quiet_on (HRec.out _ (HR.out.below (below_drawn (Below.refl _ _) _)))))
    go_wp2_with fail
    go_ret
    exact ⟨rfl, _, rfl⟩
  · have hF := hβ.trans (fits_else (l := l) hbt hab han (by
      cases h1 : a.isCls with
      | false => exact .inl rfl
      | true =>
        cases h2 : b.isCls with
        | false => exact .inr rfl
        | true => exact absurd ⟨h1, h2⟩ hcc) (by
      rcases Nat.eq_zero_or_pos a.depth with h | h
      · exact .inl h
      · rcases Nat.eq_zero_or_pos b.depth with h' | h'
        · exact .inr h'
        · exact absurd ⟨h, h'⟩ hdd))
    have hcase : (a.isCls = true ∧ b.isCls = false ∧ ¬ 0 < a.depth ∧ β = false) ∨ (a.isCls = false ∧ ¬ 0 < a.depth ∧ β = false) ∨ (a.isCls = false ∧ 0 < a.depth ∧ ¬ 0 < b.depth ∧ β = ((bs b.text).toList == [76, 79, 98, 106, 101, 99, 116, 59])) := by
      have hno : ∀ (h : ¬ 0 < a.depth), β = false := fun h => by
        cases hb : β with
        | false => rfl
        | true => exact absurd (hF.1 hb).1 h
      cases h1 : a.isCls with
      | true =>
        have h0 : ¬ 0 < a.depth := by obtain ⟨m, rfl⟩ := isCls_is h1; exact Nat.lt_irrefl 0
        cases h2 : b.isCls with
        | true => exact absurd ⟨h1, h2⟩ hcc
        | false => exact .inl ⟨rfl, rfl, h0, hno h0⟩
      | false =>
        by_cases h3 : 0 < a.depth
        · refine .inr (.inr ⟨rfl, h3, fun h => hdd ⟨h3, h⟩, ?_⟩)
          rw [Bool.eq_iff_iff, hF, ByteArray.toList_eq, beq_iff_eq]
          constructor
          · rintro ⟨_, rfl⟩; rfl
          · exact fun e => ⟨h3, text_inj hb (j := .cls 0 objB) ⟨by decide, by decide⟩ e⟩
        · exact .inr (.inl ⟨rfl, h3, hno h3⟩)
    rcases hcase with ⟨h1, h2, h3, rfl⟩ | ⟨h1, h3, rfl⟩ | ⟨h1, h3, h4, rfl⟩
    · rw [h1] at HCa
      rw [h2] at HCb
      rw [decide_eq_false h3] at HAa
      replace HCa := Lib.hid HCa
      replace HCb := Lib.hid HCb
      replace HAa := Lib.hid HAa
      clear R ih hβ hab hbt han hk ha hb hV HAb hcc hdd h1 h2 h3 hF
      generalize a.text = ta at *
      generalize b.text = tb at *
      go_enter Tryz.func28, Tryz.ntmps28
      go_wp2_with (first
        | (go_at_call 46; (with_reducible refine (HCa.out _).mono ?_); rintro e w1 ⟨rfl, rfl⟩)
        | (go_at_call 46; (with_reducible refine (HCb.out _).mono ?_); rintro e w1 ⟨rfl, rfl⟩)
        | (go_at_call 49; (with_reducible refine (HAa.out _).mono ?_); rintro e w1 ⟨rfl, rfl⟩))
      go_ret
      exact ⟨rfl, 0, rfl⟩
    · rw [h1] at HCa
      rw [decide_eq_false h3] at HAa
      replace HCa := Lib.hid HCa
      replace HAa := Lib.hid HAa
      clear R ih hβ hab hbt han hk ha hb hV HAb HCb hcc hdd h1 h3 hF
      generalize a.text = ta at *
      generalize b.text = tb at *
      go_enter Tryz.func28, Tryz.ntmps28
      go_wp2_with (first
        | (go_at_call 46; (with_reducible refine (HCa.out _).mono ?_); rintro e w1 ⟨rfl, rfl⟩)
        | (go_at_call 49; (with_reducible refine (HAa.out _).mono ?_); rintro e w1 ⟨rfl, rfl⟩))
      go_ret
      exact ⟨rfl, 0, rfl⟩
    · rw [h1] at HCa
      rw [decide_eq_true h3] at HAa
      rw [decide_eq_false h4] at HAb
      replace HCa := Lib.hid HCa
      replace HAa := Lib.hid HAa
      replace HAb := Lib.hid HAb
      clear R ih hβ hab hbt han hk ha hb hV HCb hcc hdd h1 h3 h4 hF
      generalize a.text = ta at *
      generalize b.text = tb at *
      go_enter Tryz.func28, Tryz.ntmps28
      go_wp2_with (first
        | (go_at_call 46; (with_reducible refine (HCa.out _).mono ?_); rintro e w1 ⟨rfl, rfl⟩)
        | (go_at_call 49; (with_reducible refine (HAa.out _).mono ?_); rintro e w1 ⟨rfl, rfl⟩)
        | (go_at_call 49; (with_reducible refine (HAb.out _).mono ?_); rintro e w1 ⟨rfl, rfl⟩))
      go_ret
      exact ⟨rfl, 0, rfl⟩

set_option maxRecDepth 20000 in
set_option maxHeartbeats 8000000 in
theorem sub_fits : SubFits := by
  intro l q a b β A n c w hq hβ T R hA hu hw hn ha hb
  have HCk := Lib.hid (world_checks l q A n c w hq T R hA hu hw hn)
  have hno : kindsQ l q a b ≠ 0 → β = false := fun h => by
    cases hb : β with
    | false => rfl
    | true => exact absurd (hβ.1 hb).1 h
  by_cases h0 : q = 0
  · subst h0
    have HKa := fun w => isKind_any a ha w
    have HKb := fun w => isKind_any b hb w
    by_cases hka : kindE l a = 1
    · have hv : kindsQ l 0 a b = 1 := by unfold kindsQ; rw [if_neg (by simp), if_pos (.inl hka)]
      obtain rfl := hno (by rw [hv]; decide)
      rw [hv]
      rw [kindE_one.1 hka] at HKa
      replace HKa := Lib.hid HKa
      clear hβ hq hno hka T R hA hu hw hn ha hb hv HKb
      go_enter Tryz.func13, Tryz.ntmps13
      go_wp2_with (first
        | (go_at_call 25; (with_reducible refine HCk.out.mono ?_); rintro e w1 ⟨rfl, hb⟩
           have HB1 := Lib.hid hb
           clear hb)
        | (go_at_call 26; (with_reducible refine (HKa.out _).mono ?_); rintro e w2 ⟨rfl, rfl⟩))
      go_ret2
      exact ⟨rfl, HB1.out⟩
    have hya : kindB a = true := by
      cases h : kindB a with
      | true => rfl
      | false => exact absurd (kindE_one.2 h) hka
    rw [hya] at HKa
    by_cases hkb : kindE l b = 1
    · have hv : kindsQ l 0 a b = 1 := by unfold kindsQ; rw [if_neg (by simp), if_pos (.inr hkb)]
      obtain rfl := hno (by rw [hv]; decide)
      rw [hv]
      rw [kindE_one.1 hkb] at HKb
      replace HKa := Lib.hid HKa
      replace HKb := Lib.hid HKb
      clear hβ hq hno hka hkb T R hA hu hw hn ha hb hv hya
      go_enter Tryz.func13, Tryz.ntmps13
      go_wp2_with (first
        | (go_at_call 25; (with_reducible refine HCk.out.mono ?_); rintro e w1 ⟨rfl, hb⟩
           have HB1 := Lib.hid hb
           clear hb)
        | (go_at_call 26; (with_reducible refine (HKa.out _).mono ?_); rintro e w2 ⟨rfl, rfl⟩)
        | (go_at_call 26; (with_reducible refine (HKb.out _).mono ?_); rintro e w2 ⟨rfl, rfl⟩))
      go_ret2
      exact ⟨rfl, HB1.out⟩
    have hyb : kindB b = true := by
      cases h : kindB b with
      | true => rfl
      | false => exact absurd (kindE_one.2 h) hkb
    rw [hyb] at HKb
    replace HKa := Lib.hid HKa
    replace HKb := Lib.hid HKb
    have hv : kindsQ l 0 a b = if kindE l a ≠ 0 then kindE l a else kindE l b := by unfold kindsQ; rw [if_neg (by simp), if_neg (fun h => h.elim hka hkb)]
    obtain ⟨x, hx, rfl⟩ := kind_is hka
    obtain ⟨y, hy, rfl⟩ := kind_is hkb
    have HXa := fun w' (hb' : Below w.heap.size w w') => allAbove_any l hq x hx A n c w' (T.below hb') (ClassRow.below R hb') hA hu hw hn
    have HXb := fun w' (hb' : Below w.heap.size w w') => allAbove_any l hq y hy A n c w' (T.below hb') (ClassRow.below R hb') hA hu hw hn
    have hV := worldIs_zero hq
    by_cases h3 : kindE l x.text = 0
    · rw [if_neg (by simpa using h3)] at hv
      by_cases h4 : kindE l y.text = 0
      · rw [h4] at hv
        have hkn : x.name ≠ [] → knownB l x.name = true := fun h => by
          rw [kindE_text hx] at h3
          cases hb : knownB l x.name with
          | true => rfl
          | false => rw [if_pos ⟨h, hb⟩] at h3; cases h3
        have hβ2 : β = true ↔ FitsD l x y := by
          rw [hβ, hv, fitsT_iff hx hy]
          exact ⟨fun h => h.2, fun h => ⟨rfl, h⟩⟩
        have HF := Lib.hid (fun s A n c w (hs : s.length ≤ 13) (h : x.name ≠ [] → Sorted l x.name s) R => sfits_any l hV s A n c hs x.depth x y rfl hx hy (fun h' => ⟨hkn h', (h h').2⟩) β hβ2 w R)
        rw [hv]
        rw [h3] at HXa
        rw [h4] at HXb
        replace HXa := Lib.hid HXa
        replace HXb := Lib.hid HXb
        clear hβ hq hno hka hkb T R hA hu hw hn ha hb hv hya hyb h3 h4 hkn hβ2 hV hx hy
        generalize x.text = tx at *
        generalize y.text = ty at *
        go_enter Tryz.func13, Tryz.ntmps13
        go_wp2_with (first
          | (go_at_call 25; (with_reducible refine HCk.out.mono ?_); rintro e w1 ⟨rfl, hb⟩
             have HB1 := Lib.hid hb
             clear hb)
          | (go_at_call 26; (with_reducible refine (HKa.out _).mono ?_); rintro e w2 ⟨rfl, rfl⟩)
          | (go_at_call 26; (with_reducible refine (HKb.out _).mono ?_); rintro e w2 ⟨rfl, rfl⟩)
          | (go_at_call 27; (with_reducible refine (HXa.out _ HB1.out).mono ?_); rintro e w2 ⟨v, s, rfl, ho, hl, hs, hb⟩
             obtain ⟨A1, c1, rfl⟩ := ho.form
             have HR1 := Lib.hid ho.row
             have HB2 := Lib.hid (bnext HB1.out hb)
             have HF2 := Lib.hid (fun w R => HF.out s A1 s.length c1 w hl (fun h => hs h (by simp)) R)
             clear ho hl hs hb)
          | (go_at_call 27; (with_reducible refine (HXb.out _ HB2.out).mono ?_); rintro e w3 ⟨v3, s3, rfl, ho, hl, hs, hb⟩
             obtain ⟨A3, c3, rfl⟩ := ho.form
             have HR3 := Lib.hid (HR1.out.below hb)
             have HB3 := Lib.hid (bnext HB2.out hb)
             clear ho hl hs hb)
          | (go_at_call 28; (with_reducible refine (HF2.out _ HR3.out).mono ?_); rintro e w4 ⟨rfl, k4, rfl⟩))
        go_ret2
        exact ⟨rfl, below_drawn HB3.out _⟩
      · obtain rfl := hno (by rw [hv]; exact h4)
        have hne : (kindE l y.text != 0) = true := by rw [bne_iff_ne]; exact h4
        rw [hv]
        rw [h3] at HXa
        replace HXa := Lib.hid HXa
        replace HXb := Lib.hid HXb
        clear hβ hq hno hka hkb T R hA hu hw hn ha hb hv hya hyb h3 h4 hV hx hy
        generalize kindE l y.text = q at *
        go_enter Tryz.func13, Tryz.ntmps13
        go_wp2_with (first
          | (go_at_call 25; (with_reducible refine HCk.out.mono ?_); rintro e w1 ⟨rfl, hb⟩
             have HB1 := Lib.hid hb
             clear hb)
          | (go_at_call 26; (with_reducible refine (HKa.out _).mono ?_); rintro e w2 ⟨rfl, rfl⟩)
          | (go_at_call 26; (with_reducible refine (HKb.out _).mono ?_); rintro e w2 ⟨rfl, rfl⟩)
          | (go_at_call 27; (with_reducible refine (HXa.out _ HB1.out).mono ?_); rintro e w2 ⟨v, s, rfl, ho, hl, hs, hb⟩
             obtain ⟨A1, c1, rfl⟩ := ho.form
             have HB2 := Lib.hid (bnext HB1.out hb)
             clear ho hl hs hb)
          | (go_at_call 27; (with_reducible refine (HXb.out _ HB2.out).mono ?_); rintro e w3 ⟨v3, s3, rfl, ho, hl, hs, hb⟩
             obtain ⟨A3, c3, rfl⟩ := ho.form
             have HB3 := Lib.hid (bnext HB2.out hb)
             clear ho hl hs hb))
        go_ret2
        exact ⟨rfl, HB3.out⟩
    · rw [if_pos h3] at hv
      obtain rfl := hno (by rw [hv]; exact h3)
      have hne : (kindE l x.text != 0) = true := by rw [bne_iff_ne]; exact h3
      rw [hv]
      replace HXa := Lib.hid HXa
      clear hβ hq hno hka hkb T R hA hu hw hn ha hb hv hya hyb h3 hV hx hy HXb
      generalize kindE l x.text = q at *
      go_enter Tryz.func13, Tryz.ntmps13
      go_wp2_with (first
        | (go_at_call 25; (with_reducible refine HCk.out.mono ?_); rintro e w1 ⟨rfl, hb⟩
           have HB1 := Lib.hid hb
           clear hb)
        | (go_at_call 26; (with_reducible refine (HKa.out _).mono ?_); rintro e w2 ⟨rfl, rfl⟩)
        | (go_at_call 26; (with_reducible refine (HKb.out _).mono ?_); rintro e w2 ⟨rfl, rfl⟩)
        | (go_at_call 27; (with_reducible refine (HXa.out _ HB1.out).mono ?_); rintro e w2 ⟨v, s, rfl, ho, hl, hs, hb⟩
           obtain ⟨A1, c1, rfl⟩ := ho.form
           have HB2 := Lib.hid (bnext HB1.out hb)
           clear ho hl hs hb))
      go_ret2
      exact ⟨rfl, HB2.out⟩
  · have hv : kindsQ l q a b = q := by unfold kindsQ; rw [if_pos h0]
    obtain rfl := hno (by rw [hv]; exact h0)
    have hne : (q != 0) = true := by rw [bne_iff_ne]; exact h0
    rw [hv]
    clear hβ hq hno h0 T R hA hu hw hn ha hb hv
    go_enter Tryz.func13, Tryz.ntmps13
    go_wp2_with (first
      | (go_at_call 25; (with_reducible refine HCk.out.mono ?_); rintro e w1 ⟨rfl, hb⟩
         have HB1 := Lib.hid hb
         clear hb))
    go_ret2
    exact ⟨rfl, HB1.out⟩
end Go.Proofs.YtnmfcckahglbbaaGreatDoor
