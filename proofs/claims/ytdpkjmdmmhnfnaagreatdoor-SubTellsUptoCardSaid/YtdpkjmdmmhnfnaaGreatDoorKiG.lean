/- The reference's KindsFault and Fits. -/
import Derived.Test.YtdpkjmdmmhnfnaaGreatDoorKiF
import Derived.Test.YtdpkjmdmmhnfnaaGreatDoorKiR
import Derived.Test.YtdpkjmdmmhnfnaaGreatDoorWoE
import Derived.Deep.RegionHeld
namespace Go.Proofs.YtdpkjmdmmhnfnaaGreatDoor
open Go.ChangeShapes Go.WideShapes Go.ChangeAt Go.RowKit
set_option linter.unusedVariables false

/-- What is wrong with two kinds in a world, where q is what is wrong with the world. -/
def kindsQ (l : List ClassD) (q : Nat) (a b : List UInt8) : Nat := if q ≠ 0 then q else if kindE l a = 1 ∨ kindE l b = 1 then 1 else if kindE l a ≠ 0 then kindE l a else kindE l b
theorem kindE_le (l : List ClassD) (y : List UInt8) : kindE l y = 0 ∨ kindE l y = 1 ∨ kindE l y = 3 := by
  unfold kindE
  split
  · exact .inl rfl
  · split
    · exact .inr (.inl rfl)
    · split
      · exact .inr (.inr rfl)
      · exact .inl rfl
set_option maxRecDepth 20000 in
set_option maxHeartbeats 4000000 in
theorem rkindsFault_any (l : List ClassD) (q : Nat) (hq : WorldIs l q) (a b : List UInt8) (A : Option Addr) (n c : Nat) (w : World) (R : ClassRow w A n c l) (hu : ∀ x ∈ l, x.upto 1048576) (hw : ∀ x ∈ l, x.wf) (hn : n ≤ 140737488351232) (ha : a.length ≤ 140737488351232) (hb : b.length ≤ 140737488351232) :
    Calls Tryz.prog 8 #[.slice A n c, .string (bs a), .string (bs b)] w fun e w' => e = .returned (.int .i64 (kindsQ l q a b : Int)) ∧ Below w.heap.size w w' := by
  have HF := Lib.hid (rworld_any l q hq A n c w R hu hw hn)
  have HKa := fun W R => rkindFault_any l a A n c W R hn ha
  have HKb := fun W R => rkindFault_any l b A n c W R hn hb
  have HR := Lib.hid R
  have h3a := kindE_le l a
  have h3b := kindE_le l b
  clear hq R hu hw ha hb
  unfold kindsQ
  generalize kindE l a = x at *
  generalize kindE l b = y at *
  replace HKa := Lib.hid HKa
  replace HKb := Lib.hid HKb
  by_cases h0 : q = 0
  · subst h0
    rw [if_neg (by simp)]
    rcases h3a with rfl | rfl | rfl <;> rcases h3b with rfl | rfl | rfl
    all_goals
      go_enter Tryz.func8, Tryz.ntmps8
      go_wp2_with (first
        | (go_at_call 20; (with_reducible refine HF.out.mono ?_); rintro e w1 ⟨rfl, hb⟩
           have HB1 := Lib.hid hb
           clear hb)
        | (go_at_call 21; (with_reducible refine (HKa.out _ (ClassRow.below HR.out HB1.out)).mono ?_); rintro e w2 ⟨rfl, hb⟩
           have HB2 := Lib.hid (bnext HB1.out hb)
           clear hb)
        | (go_at_call 21; (with_reducible refine (HKb.out _ (ClassRow.below HR.out HB2.out)).mono ?_); rintro e w3 ⟨rfl, hb⟩
           have HB3 := Lib.hid (bnext HB2.out hb)
           clear hb))
      go_ret
      exact ⟨rfl, HB3.out⟩
  · rw [if_pos h0]
    have hne : ((q : Int) != 0) = true := by rw [bne_iff_ne]; omega
    clear h0
    go_enter Tryz.func8, Tryz.ntmps8
    go_wp2_with (first
      | (go_at_call 20; (with_reducible refine HF.out.mono ?_); rintro e w1 ⟨rfl, hb⟩
         have HB1 := Lib.hid hb
         clear hb))
    go_ret
    exact ⟨rfl, HB1.out⟩

def KindD.depth : KindD → Nat
  | .word d _ => d
  | .cls d _ => d
  | _ => 0
/-- An array's elements. -/
def KindD.elem : KindD → KindD
  | .word d c => .word (d - 1) c
  | .cls d n => .cls (d - 1) n
  | k => k
theorem elem_text {k : KindD} (h : 0 < k.depth) : k.text = 91 :: k.elem.text := by
  cases k with
  | nul => cases h
  | top => cases h
  | word d c =>
    obtain ⟨e, rfl⟩ : ∃ e, d = e + 1 := ⟨d - 1, by have : 0 < d := h; omega⟩
    rfl
  | cls d n =>
    obtain ⟨e, rfl⟩ : ∃ e, d = e + 1 := ⟨d - 1, by have : 0 < d := h; omega⟩
    rfl
theorem elem_ok {k : KindD} (h : k.ok) : k.elem.ok := by
  cases k with
  | nul => trivial
  | top => trivial
  | word d c => exact ⟨by have := h.1; omega, h.2⟩
  | cls d n => exact ⟨by have := h.1; omega, h.2⟩
theorem elem_depth (k : KindD) : k.elem.depth = k.depth - 1 := by cases k <;> rfl
theorem elem_name (k : KindD) : k.elem.name = k.name := by cases k <;> rfl
theorem elem_type {k : KindD} (h : 0 < k.depth) : k.elem.isType = true := by
  cases k with
  | nul => cases h
  | top => cases h
  | word d c => rfl
  | cls d n => rfl
theorem fits_elem {w : List ClassD} {a b : KindD} (ha : 0 < a.depth) (hb : 0 < b.depth) (hn : a ≠ b) : FitsD w a b ↔ a.elem.isRef = true ∧ b.elem.isRef = true ∧ FitsD w a.elem b.elem := by
  cases a with
  | nul => cases ha
  | top => cases ha
  | word d c =>
    cases b with
    | nul => cases hb
    | top => cases hb
    | word e z =>
      have h1 : 0 < d := ha
      have h2 : 0 < e := hb
      have hne : ¬ (d = e ∧ c = z) := fun h => hn (by rw [h.1, h.2])
      have hne2 : ¬ (d - 1 = e - 1 ∧ c = z) := fun h => hne ⟨by omega, h.2⟩
      exact ⟨fun h => absurd h hne, fun h => absurd h.2.2 hne2⟩
    | cls e n =>
      have h1 : 0 < d := ha
      have h2 : 0 < e := hb
      show (n = objB ∧ e < d) ↔ decide (0 < d - 1) = true ∧ true = true ∧ (n = objB ∧ e - 1 < d - 1)
      rw [decide_eq_true_eq]
      constructor
      · rintro ⟨h3, h4⟩; exact ⟨by omega, rfl, h3, by omega⟩
      · rintro ⟨_, _, h3, h4⟩; exact ⟨h3, by omega⟩
  | cls d m =>
    cases b with
    | nul => cases hb
    | top => cases hb
    | word e z => exact ⟨fun h => h.elim, fun h => h.2.2.elim⟩
    | cls e n =>
      have h1 : 0 < d := ha
      have h2 : 0 < e := hb
      show ((d = e ∧ _) ∨ (e < d ∧ n = objB)) ↔ true = true ∧ true = true ∧ ((d - 1 = e - 1 ∧ _) ∨ (e - 1 < d - 1 ∧ n = objB))
      constructor
      · rintro (⟨h3, h4⟩ | ⟨h3, h4⟩)
        · exact ⟨rfl, rfl, .inl ⟨by omega, h4⟩⟩
        · exact ⟨rfl, rfl, .inr ⟨by omega, h4⟩⟩
      · rintro ⟨_, _, ⟨h3, h4⟩ | ⟨h3, h4⟩⟩
        · exact .inl ⟨by omega, h4⟩
        · exact .inr ⟨by omega, h4⟩
theorem text_head {k : KindD} (hk : k.ok) (hr : k.isRef = true) : (0 < k.depth ∧ k.text[0]? = some 91) ∨ (k.depth = 0 ∧ k.text[0]? = some 76 ∧ ∃ n, k = .cls 0 n) := by
  cases k with
  | nul => cases hr
  | top => cases hr
  | word d c =>
    have h1 : 0 < d := by simpa [KindD.isRef] using hr
    exact .inl ⟨h1, brks_at h1 _⟩
  | cls d n =>
    rcases Nat.eq_zero_or_pos d with rfl | h
    · exact .inr ⟨rfl, rfl, n, rfl⟩
    · exact .inl ⟨h, brks_at h _⟩
theorem text_tail {k : KindD} (h : 0 < k.depth) : (bs k.text).extract 1 (bs k.text).size = bs k.elem.text ∧ 1 ≤ (bs k.text).size := by
  rw [elem_text h]
  refine ⟨?_, by rw [bs_size]; simp⟩
  rw [ext_bs, bs_size, List.take_length]
  rfl
theorem ktext_len {k : KindD} (hk : k.ok) : k.text.length ≤ 30 := by
  cases k with
  | nul => decide
  | top => decide
  | word d c =>
    have := hk.1
    simp [KindD.text, brks_len]
    omega
  | cls d n =>
    have := hk.1
    have := name_len hk.2
    simp [KindD.text, brks_len]
    omega
theorem kind_known {l : List ClassD} {d : Nat} {n : List UInt8} (hk : (KindD.cls d n).ok) (h : kindE l (KindD.cls d n).text = 0) : knownB l n = true := by
  rw [kindE_text hk] at h
  cases hb : knownB l n with
  | true => rfl
  | false =>
    rw [if_pos ⟨fun e => (by have := hk.2; rw [show n = [] from e] at this; cases this), hb⟩] at h
    cases h
theorem fits_noref {l : List ClassD} {a b : KindD} (hb : b ≠ .top) (hn : a ≠ .nul) (hab : a ≠ b) (h : a.isRef = false ∨ b.isRef = false) : ¬ FitsD l a b := by
  cases a with
  | nul => exact absurd rfl hn
  | top =>
    cases b with
    | top => exact absurd rfl hb
    | nul => exact id
    | word d c => exact id
    | cls d n => exact id
  | word d c =>
    cases b with
    | top => exact absurd rfl hb
    | nul => exact id
    | word e z => exact fun h => hab (by rw [h.1, h.2])
    | cls e n =>
      rcases h with h | h
      · have : d = 0 := by simpa [KindD.isRef] using h
        exact fun h => by have := h.2; omega
      · cases h
  | cls d m =>
    cases b with
    | top => exact absurd rfl hb
    | nul => exact id
    | word e z => exact id
    | cls e n => rcases h with h | h <;> cases h
theorem obj_text : (KindD.cls 0 objB).text = [76, 79, 98, 106, 101, 99, 116, 59] := rfl
theorem isRef_text {k : KindD} (hk : k.ok) (w : World) : Calls Tryz.prog 26 #[.string (bs k.text)] w fun e w' => e = .returned (.bool k.isRef) ∧ w = w' := by
  have h := isRef_any (bs k.text) w (by rw [bs_size]; have := ktext_len hk; unfold maxLen; omega)
  simp only [bs_list] at h
  rw [ref_iff hk] at h
  exact h
theorem quiet_here {P : Program} {f : FuncId} {args : Array Value} {w : World} {n : Nat} {u : Value} (h : Calls P f args (w.drewN n) fun e w' => e = .returned u ∧ w.drewN n = w') :
    Calls P f args (w.drewN n) fun e w'' => e = .returned u ∧ ∃ m, w'' = w.drewN m := h.mono fun _ _ ⟨he, hm⟩ => ⟨he, n, hm.symm⟩
theorem cut_text {s e : ByteArray} (h : s.extract 1 s.size = e) (h1 : 1 ≤ s.size) (W : World) : (Instr.sliceAt 9 (.string s) (some (.int .i64 1)) none none).run Tryz.prog W = .ok (.string e) W := by
  rw [run_sliceAt_string W _ _ _ _ _ Tryz.underlying9, run_slice_string_l W _ s Tryz.underlying9 .i64 1 (by decide) (by omega), ← h]
  rfl
set_option maxRecDepth 20000 in
set_option maxHeartbeats 16000000 in
theorem rfits_any (l : List ClassD) (hV : Valid l) (A : Option Addr) (n c : Nat) (hn : n ≤ 140737488351232) : ∀ (d : Nat) (a b : KindD), a.depth = d → a.ok → b.ok → kindE l a.text = 0 → kindE l b.text = 0 → ∀ (β : Bool), (β = true ↔ FitsD l a b) → ∀ (w : World) (R : ClassRow w A n c l),
    Calls Tryz.prog 11 #[.slice A n c, .string (bs a.text), .string (bs b.text)] w fun e w' => e = .returned (.bool β) ∧ Below w.heap.size w w' := by
  intro d
  induction d using Nat.strongRecOn with
  | _ d ih =>
  intro a b hd ha hb hka hkb β hβ w R
  have HR := Lib.hid R
  have HIa := Lib.hid (fun w => isRef_text ha w)
  have HIb := Lib.hid (fun w => isRef_text hb w)
  by_cases hbt : b = .top
  · subst hbt
    obtain rfl : β = true := hβ.2 (by cases a <;> exact trivial)
    have e1 : ((bs KindD.top.text).toList == [84]) = true := lst_yes rfl
    clear R ih hβ
    go_enter Tryz.func11, Tryz.ntmps11
    go_wp2
    go_ret
    exact ⟨rfl, Below.refl _ _⟩
  have e1 : ((bs b.text).toList == [84]) = false := lst_no (fun e => hbt (text_inj hb (j := .top) trivial e))
  by_cases hab : a = b
  · have e2 : ((bs a.text).toList == (bs b.text).toList) = true := by rw [hab]; simp
    obtain rfl : β = true := hβ.2 (by rw [hab]; exact FitsD.refl l b)
    clear R ih hβ hab hbt
    go_enter Tryz.func11, Tryz.ntmps11
    go_wp2
    go_ret
    exact ⟨rfl, Below.refl _ _⟩
  have e2 : ((bs a.text).toList == (bs b.text).toList) = false := str_ne_ (fun e => hab (text_inj ha hb e))
  by_cases han : a = .nul
  · have e3 : ((bs a.text).toList == [78]) = true := by rw [han]; exact lst_yes rfl
    obtain rfl : β = b.isRef := by
      rw [Bool.eq_iff_iff, hβ, han]
      cases b with
      | nul => exact absurd han hab
      | top => exact absurd rfl hbt
      | word d c => exact Iff.rfl
      | cls d n => exact Iff.rfl
    clear R ih hβ hab hbt han
    go_enter Tryz.func11, Tryz.ntmps11
    go_wp2_with (first
      | (go_at_call 26; (with_reducible refine (HIb.out _).mono ?_); rintro e w1 ⟨rfl, rfl⟩))
    go_ret
    exact ⟨rfl, Below.refl _ _⟩
  have e3 : ((bs a.text).toList == [78]) = false := lst_no (fun e => han (text_inj ha (j := .nul) trivial e))
  cases hra : a.isRef with
  | false =>
    obtain rfl : β = false := by
      cases β with
      | false => rfl
      | true => exact absurd (hβ.1 rfl) (fits_noref hbt han hab (.inl hra))
    rw [hra] at HIa
    clear R ih hβ hab hbt han hra
    go_enter Tryz.func11, Tryz.ntmps11
    go_wp2_with (first
      | (go_at_call 26; (with_reducible refine (HIa.out _).mono ?_); rintro e w1 ⟨rfl, rfl⟩))
    go_ret
    exact ⟨rfl, Below.refl _ _⟩
  | true =>
    cases hrb : b.isRef with
    | false =>
      obtain rfl : β = false := by
        cases β with
        | false => rfl
        | true => exact absurd (hβ.1 rfl) (fits_noref hbt han hab (.inr hrb))
      rw [hra] at HIa
      rw [hrb] at HIb
      clear R ih hβ hab hbt han hra hrb
      go_enter Tryz.func11, Tryz.ntmps11
      go_wp2_with (first
        | (go_at_call 26; (with_reducible refine (HIa.out _).mono ?_); rintro e w1 ⟨rfl, rfl⟩)
        | (go_at_call 26; (with_reducible refine (HIb.out _).mono ?_); rintro e w1 ⟨rfl, rfl⟩))
      go_ret
      exact ⟨rfl, Below.refl _ _⟩
    | true =>
      rw [hra] at HIa
      rw [hrb] at HIb
      by_cases hbo : b = .cls 0 objB
      · have e4 : ((bs b.text).toList == [76, 79, 98, 106, 101, 99, 116, 59]) = true := by rw [hbo]; exact lst_yes rfl
        obtain rfl : β = true := hβ.2 (by
          rw [hbo]
          cases a with
          | nul => exact absurd rfl han
          | top => cases hra
          | word d c => exact ⟨rfl, by simpa [KindD.isRef] using hra⟩
          | cls d n =>
            rcases Nat.eq_zero_or_pos d with rfl | h
            · exact .inl ⟨rfl, .inr (.inl rfl)⟩
            · exact .inr ⟨h, rfl⟩)
        clear R ih hβ hab hbt han hra hrb hbo
        go_enter Tryz.func11, Tryz.ntmps11
        go_wp2_with (first
          | (go_at_call 26; (with_reducible refine (HIa.out _).mono ?_); rintro e w1 ⟨rfl, rfl⟩)
          | (go_at_call 26; (with_reducible refine (HIb.out _).mono ?_); rintro e w1 ⟨rfl, rfl⟩))
        go_ret
        exact ⟨rfl, Below.refl _ _⟩
      have e4 : ((bs b.text).toList == [76, 79, 98, 106, 101, 99, 116, 59]) = false := lst_no (fun e => hbo (text_inj hb (j := .cls 0 objB) ⟨by decide, by decide⟩ e))
      rcases text_head ha hra with ⟨da, ta⟩ | ⟨da, ta, m, hm⟩
      · obtain ⟨ga, fa⟩ := at_yes (v := 91) ta rfl
        rcases text_head hb hrb with ⟨db, tb⟩ | ⟨db, tb, z, hz⟩
        · obtain ⟨gb, fb⟩ := at_yes (v := 91) tb rfl
          obtain ⟨xa, ya⟩ := text_tail da
          obtain ⟨xb, yb⟩ := text_tail db
          have hfe := fits_elem (w := l) da db hab
          have HIa2 := Lib.hid (fun w => isRef_text (elem_ok ha) w)
          have HIb2 := Lib.hid (fun w => isRef_text (elem_ok hb) w)
          have hca : kindE l a.elem.text = 0 := by rw [kindE_text (elem_ok ha), elem_name, ← kindE_text ha]; exact hka
          have hcb : kindE l b.elem.text = 0 := by rw [kindE_text (elem_ok hb), elem_name, ← kindE_text hb]; exact hkb
          have HRec := Lib.hid (fun h1 h2 W R => ih (d - 1) (by omega) a.elem b.elem (by rw [elem_depth, hd]) (elem_ok ha) (elem_ok hb) hca hcb β (hβ.trans (hfe.trans ⟨fun h => h.2.2, fun h => ⟨h1, h2, h⟩⟩)) W R)
          have hcase : (a.elem.isRef = false ∧ β = false) ∨ (a.elem.isRef = true ∧ b.elem.isRef = false ∧ β = false) ∨ (a.elem.isRef = true ∧ b.elem.isRef = true) := by
            cases h1 : a.elem.isRef with
            | false => exact .inl ⟨rfl, by cases β with | false => rfl | true => exact absurd ((hfe.1 (hβ.1 rfl)).1.symm.trans h1) (by simp)⟩
            | true =>
              cases h2 : b.elem.isRef with
              | false => exact .inr (.inl ⟨rfl, rfl, by cases β with | false => rfl | true => exact absurd ((hfe.1 (hβ.1 rfl)).2.1.symm.trans h2) (by simp)⟩)
              | true => exact .inr (.inr ⟨rfl, rfl⟩)
          have hga : 0 < (bs a.text).size := by omega
          have hgb : 0 < (bs b.text).size := by omega
          clear R ih hβ hab hbt han hra hrb hbo hfe hca hcb hka hkb da db ta tb
          generalize bs a.text = sa at *
          generalize bs b.text = sb at *
          generalize bs a.elem.text = ea at *
          generalize bs b.elem.text = eb at *
          have ua := fun W => cut_text xa ya W
          have ub := fun W => cut_text xb yb W
          rcases hcase with ⟨h1, rfl⟩ | ⟨h1, h2, rfl⟩ | ⟨h1, h2⟩
          · rw [h1] at HIa2
            clear HRec
            go_enter Tryz.func11, Tryz.ntmps11
            go_wp2_with (first
            | (go_at_call 26; (with_reducible refine (HIa.out _).mono ?_); rintro e w1 ⟨rfl, rfl⟩)
            | (go_at_call 26; (with_reducible refine (HIb.out _).mono ?_); rintro e w1 ⟨rfl, rfl⟩))
            go_quiet ((go_at_call 26; exact quiet_here (HIa2.out _)))
            go_wp2_with fail
            go_ret
            exact ⟨rfl, below_drawn (Below.refl _ _) _⟩
          · rw [h1] at HIa2
            rw [h2] at HIb2
            clear HRec
            go_enter Tryz.func11, Tryz.ntmps11
            go_wp2_with (first
            | (go_at_call 26; (with_reducible refine (HIa.out _).mono ?_); rintro e w1 ⟨rfl, rfl⟩)
            | (go_at_call 26; (with_reducible refine (HIb.out _).mono ?_); rintro e w1 ⟨rfl, rfl⟩))
            go_quiet (first
              | (go_at_call 26; exact quiet_here (HIa2.out _))
              | (go_at_call 26; exact quiet_here (HIb2.out _)))
            go_wp2_with fail
            go_ret
            exact ⟨rfl, below_drawn (Below.refl _ _) _⟩
          · rw [h1] at HIa2
            rw [h2] at HIb2
            replace HRec := Lib.hid (HRec.out h1 h2)
            go_enter Tryz.func11, Tryz.ntmps11
            go_wp2_with (first
            | (go_at_call 26; (with_reducible refine (HIa.out _).mono ?_); rintro e w1 ⟨rfl, rfl⟩)
            | (go_at_call 26; (with_reducible refine (HIb.out _).mono ?_); rintro e w1 ⟨rfl, rfl⟩))
            first | go_region_held (fun _ => True) (first | exact trivial | exact True.intro)
              (first
                | (go_at_call 26; (with_reducible refine (HIa2.out _).mono ?_); rintro e w1 ⟨rfl, rfl⟩)
                | (go_at_call 26; (with_reducible refine (HIb2.out _).mono ?_); rintro e w1 ⟨rfl, rfl⟩)
                | (go_at_call 11; (with_reducible refine (HRec.out _ (ClassRow.below HR.out (Below.refl _ _).drew)).mono ?_); rintro e w2 ⟨rfl, hb⟩
                   have HB2 := Lib.hid (behind_drew1 hb)
                   clear hb)) | fail
            all_goals
              go_wp2_with fail
              go_ret
              exact ⟨rfl, HB2.out⟩
        · obtain ⟨gb, fb⟩ := at_no (v := 91) tb (by decide)
          obtain ⟨_, fa2⟩ := at_no (v := 76) ta (by decide)
          obtain rfl : β = false := by
            cases β with
            | false => rfl
            | true =>
              have h := hβ.1 rfl
              subst hz
              have hzo : z ≠ objB := fun e => hbo (by rw [e])
              cases a with
              | nul => exact absurd rfl han
              | top => cases hra
              | word d c => exact absurd h.1 hzo
              | cls d m =>
                have h1 : 0 < d := da
                rcases h with ⟨h2, _⟩ | ⟨_, h2⟩
                · omega
                · exact absurd h2 hzo
          have hga : 0 < (bs a.text).size := by omega
          have hgb : 0 < (bs b.text).size := by omega
          clear R ih hβ hab hbt han hra hrb hbo hka hkb da db ta tb hz
          generalize bs a.text = sa at *
          generalize bs b.text = sb at *
          go_enter Tryz.func11, Tryz.ntmps11
          go_wp2_with (first
            | (go_at_call 26; (with_reducible refine (HIa.out _).mono ?_); rintro e w1 ⟨rfl, rfl⟩)
            | (go_at_call 26; (with_reducible refine (HIb.out _).mono ?_); rintro e w1 ⟨rfl, rfl⟩))
          go_ret
          exact ⟨rfl, Below.refl _ _⟩
      · obtain ⟨ga, fa⟩ := at_no (v := 91) ta (by decide)
        obtain ⟨_, fa2⟩ := at_yes (v := 76) ta rfl
        rcases text_head hb hrb with ⟨db, tb⟩ | ⟨db, tb, z, hz⟩
        · obtain ⟨gb, fb⟩ := at_no (v := 76) tb (by decide)
          obtain rfl : β = false := by
            cases β with
            | false => rfl
            | true =>
              have h := hβ.1 rfl
              subst hm
              cases b with
              | nul => cases hrb
              | top => cases hrb
              | word e c => exact h.elim
              | cls e y =>
                have h1 : 0 < e := db
                rcases h with ⟨h2, _⟩ | ⟨h2, _⟩ <;> omega
          have hga : 0 < (bs a.text).size := by omega
          have hgb : 0 < (bs b.text).size := by omega
          clear R ih hβ hab hbt han hra hrb hbo hka hkb da db ta tb hm
          generalize bs a.text = sa at *
          generalize bs b.text = sb at *
          go_enter Tryz.func11, Tryz.ntmps11
          go_wp2_with (first
            | (go_at_call 26; (with_reducible refine (HIa.out _).mono ?_); rintro e w1 ⟨rfl, rfl⟩)
            | (go_at_call 26; (with_reducible refine (HIb.out _).mono ?_); rintro e w1 ⟨rfl, rfl⟩))
          go_ret
          exact ⟨rfl, Below.refl _ _⟩
        · obtain ⟨gb, fb⟩ := at_yes (v := 76) tb rfl
          subst hm hz
          have hkm := kind_known ha hka
          have hzo : z ≠ objB := fun e => hbo (by rw [e])
          have hmz : m ≠ z := fun e => hab (by rw [e])
          have HCa := Lib.hid (fun w => rclassIn_any (.cls 0 m) ha rfl w)
          have HCb := Lib.hid (fun w => rclassIn_any (.cls 0 z) hb rfl w)
          have HEv := Lib.hid (fun W R => revery_any l hV m hkm A n c W R hn)
          have HBe := Lib.hid (show ∀ out : List (List UInt8), (∀ x, x ∈ out ↔ x = m ∨ Up l m x) → out.any (· == z) = β from fun out ho => by
            rw [Bool.eq_iff_iff, hβ, any_mem, ho z]
            constructor
            · rintro (h | h)
              · exact absurd h.symm hmz
              · exact .inl ⟨rfl, .inr (.inr h)⟩
            · rintro (⟨_, h | h | h⟩ | ⟨h, _⟩)
              · exact absurd h hmz
              · exact absurd h hzo
              · exact .inr h
              · omega)
          have hga : 0 < (bs (KindD.cls 0 m).text).size := by omega
          have hgb : 0 < (bs (KindD.cls 0 z).text).size := by omega
          rw [show (KindD.cls 0 m).name = m from rfl] at HCa
          rw [show (KindD.cls 0 z).name = z from rfl] at HCb
          clear R ih hβ hab hbt han hra hrb hbo hka hkb da db ta tb hkm hzo hmz ha hb hd
          generalize bs (KindD.cls 0 m).text = sa at *
          generalize bs (KindD.cls 0 z).text = sb at *
          go_enter Tryz.func11, Tryz.ntmps11
          go_wp2_with (first
            | (go_at_call 26; (with_reducible refine (HIa.out _).mono ?_); rintro e w1 ⟨rfl, rfl⟩)
            | (go_at_call 26; (with_reducible refine (HIb.out _).mono ?_); rintro e w1 ⟨rfl, rfl⟩)
            | (go_at_call 27; (with_reducible refine (HCa.out _).mono ?_); rintro e w1 ⟨rfl, rfl⟩)
            | (go_at_call 27; (with_reducible refine (HCb.out _).mono ?_); rintro e w1 ⟨rfl, rfl⟩)
            | (go_at_call 15; (with_reducible refine (HEv.out _ HR.out).mono ?_); rintro e w2 ⟨out, hs, h13, v2, rfl, hv, hb2⟩
               obtain ⟨M, d2, rfl⟩ := hv.form
               have HIn := rin_any M out.length d2 out z w2 hv.row (by omega)
               rw [HBe.out out hs.2] at HIn
               replace HIn := Lib.hid HIn
               have HB2 := Lib.hid hb2
               clear hv hb2 hs)
            | (go_at_call 14; (with_reducible refine HIn.out.mono ?_); rintro e w3 ⟨rfl, rfl⟩))
          go_ret
          exact ⟨rfl, HB2.out⟩
end Go.Proofs.YtdpkjmdmmhnfnaaGreatDoor
