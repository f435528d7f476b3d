/- The reference's KindsFault and Fits. -/
import Derived.Test.YtnmfcckahglbbaaGreatDoorGY
import Derived.Test.YtnmfcckahglbbaaGreatDoorGX
import Derived.Deep.RegionHeld
namespace Go.Proofs.YtnmfcckahglbbaaGreatDoor
open Go.ChangeShapes Go.WideShapes Go.ChangeAt Go.RowKit
set_option linter.unusedVariables false

/-- What is wrong with two kinds in a world, where q is what is wrong with the world. -/
def kindsQ (l : List ClassD) (q : Nat) (a b : List UInt8) : Nat := if q ≠ 0 then q else if kindE l a = 1 ∨ kindE l b = 1 then 1 else if kindE l a ≠ 0 then kindE l a else kindE l b
theorem kindE_le (l : List ClassD) (y : List UInt8) : kindE l y = 0 ∨ kindE l y = 1 ∨ kindE l y = 3 := by
  unfold kindE
  split
  · exact .inl rfl
  · split
    · exact .inr (.inl rfl)
    · split
      · exact .inr (.inr rfl)
      · exact .inl rfl
set_option maxRecDepth 20000 in
set_option maxHeartbeats 4000000 in
theorem rkindsFault_any (l : List ClassD) (q : Nat) (hq : WorldIs l q) (a b : List UInt8) (A : Option Addr) (n c : Nat) (w : World) (R : ClassRow w A n c l) (hu : ∀ x ∈ l, x.upto 1048576) (hw : ∀ x ∈ l, x.wf) (hn : n ≤ 140737488351232) (ha : a.length ≤ 140737488351232) (hb : b.length ≤ 140737488351232) :
    Calls Tryz.prog 8 #[.slice A n c, .string (bs a), .string (bs b)] w fun e w' => e = .returned (.int .i64 (kindsQ l q a b : Int)) ∧ Below w.heap.size w w' := by
  have HF := Lib.hid (rworld_any l q hq A n c w R hu hw hn)
  have HKa := fun W R => rkindFault_any l a A n c W R hn ha
  have HKb := fun W R => rkindFault_any l b A n c W R hn hb
  have HR := Lib.hid R
  have h3a := kindE_le l a
  have h3b := kindE_le l b
  clear hq R hu hw ha hb
  unfold kindsQ
  generalize kindE l a = x at *
  generalize kindE l b = y at *
  replace HKa := Lib.hid HKa
  replace HKb := Lib.hid HKb
  by_cases h0 : q = 0
  · subst h0
    rw [if_neg (by simp)]
    rcases h3a with rfl | rfl | rfl <;> rcases h3b with rfl | rfl | rfl
    all_goals
      go_enter Tryz.func8, Tryz.ntmps8
      go_wp2_with (first
        | (go_at_call 20; (with_reducible refine HF.out.mono ?_); rintro e w1 ⟨rfl, hb⟩
           have HB1 := Lib.hid hb
           clear hb)
        | (go_at_call 21; (with_reducible refine (HKa.out _ (ClassRow.below HR.out HB1.out)).mono ?_); rintro e w2 ⟨rfl, hb⟩
           have HB2 := Lib.hid (bnext HB1.out hb)
           clear hb)
        | (go_at_call 21; (with_reducible refine (HKb.out _ (ClassRow.below HR.out HB2.out)).mono ?_); rintro e w3 ⟨rfl, hb⟩
           have HB3 := Lib.hid (bnext HB2.out hb)
           clear hb))
      go_ret
      exact ⟨rfl, HB3.out⟩
  · rw [if_pos h0]
    have hne : ((q : Int) != 0) = true := by rw [bne_iff_ne]; omega
    clear h0
    go_enter Tryz.func8, Tryz.ntmps8
    go_wp2_with (first
      | (go_at_call 20; (with_reducible refine HF.out.mono ?_); rintro e w1 ⟨rfl, hb⟩
         have HB1 := Lib.hid hb
         clear hb))
    go_ret
    exact ⟨rfl, HB1.out⟩

/-- An array's elements. -/
def KindD.elem : KindD → KindD
  | .word d c => .word (d - 1) c
  | .cls d n => .cls (d - 1) n
  | k => k
theorem elem_text {k : KindD} (h : 0 < k.depth) : k.text = 91 :: k.elem.text := by
  cases k with
  | nul => cases h
  | top => cases h
  | word d c =>
    obtain ⟨e, rfl⟩ : ∃ e, d = e + 1 := ⟨d - 1, by have : 0 < d := h; omega⟩
    rfl
  | cls d n =>
    obtain ⟨e, rfl⟩ : ∃ e, d = e + 1 := ⟨d - 1, by have : 0 < d := h; omega⟩
    rfl
theorem elem_ok {k : KindD} (h : k.ok) : k.elem.ok := by
  cases k with
  | nul => trivial
  | top => trivial
  | word d c => exact ⟨by have := h.1; omega, h.2⟩
  | cls d n => exact ⟨by have := h.1; omega, h.2⟩
theorem elem_depth (k : KindD) : k.elem.depth = k.depth - 1 := by cases k <;> rfl
theorem elem_name (k : KindD) : k.elem.name = k.name := by cases k <;> rfl
theorem elem_type {k : KindD} (h : 0 < k.depth) : k.elem.isType = true := by
  cases k with
  | nul => cases h
  | top => cases h
  | word d c => rfl
  | cls d n => rfl
theorem fits_elem {w : List ClassD} {a b : KindD} (ha : 0 < a.depth) (hb : 0 < b.depth) (hn : a ≠ b) : FitsD w a b ↔ a.elem.isRef = true ∧ b.elem.isRef = true ∧ FitsD w a.elem b.elem := by
  cases a with
  | nul => cases ha
  | top => cases ha
  | word d c =>
    cases b with
    | nul => cases hb
    | top => cases hb
    | word e z =>
      have h1 : 0 < d := ha
      have h2 : 0 < e := hb
      have hne : ¬ (d = e ∧ c = z) := fun h => hn (by rw [h.1, h.2])
      have hne2 : ¬ (d - 1 = e - 1 ∧ c = z) := fun h => hne ⟨by omega, h.2⟩
      exact ⟨fun h => absurd h hne, fun h => absurd h.2.2 hne2⟩
    | cls e n =>
      have h1 : 0 < d := ha
      have h2 : 0 < e := hb
      show (n = objB ∧ e < d) ↔ decide (0 < d - 1) = true ∧ true = true ∧ (n = objB ∧ e - 1 < d - 1)
      rw [decide_eq_true_eq]
      constructor
      · rintro ⟨h3, h4⟩; exact ⟨by omega, rfl, h3, by omega⟩
      · rintro ⟨_, _, h3, h4⟩; exact ⟨h3, by omega⟩
  | cls d m =>
    cases b with
    | nul => cases hb
    | top => cases hb
    | word e z => exact ⟨fun h => h.elim, fun h => h.2.2.elim⟩
    | cls e n =>
      have h1 : 0 < d := ha
      have h2 : 0 < e := hb
      show ((d = e ∧ _) ∨ (e < d ∧ n = objB)) ↔ true = true ∧ true = true ∧ ((d - 1 = e - 1 ∧ _) ∨ (e - 1 < d - 1 ∧ n = objB))
      constructor
      · rintro (⟨h3, h4⟩ | ⟨h3, h4⟩)
        · exact ⟨rfl, rfl, .inl ⟨by omega, h4⟩⟩
        · exact ⟨rfl, rfl, .inr ⟨by omega, h4⟩⟩
      · rintro ⟨_, _, ⟨h3, h4⟩ | ⟨h3, h4⟩⟩
        · exact .inl ⟨by omega, h4⟩
        · exact .inr ⟨by omega, h4⟩
theorem text_head {k : KindD} (hk : k.ok) (hr : k.isRef = true) : (0 < k.depth ∧ k.text[0]? = some 91) ∨ (k.depth = 0 ∧ k.text[0]? = some 76 ∧ ∃ n, k = .cls 0 n) := by
  cases k with
  | nul => cases hr
  | top => cases hr
  | word d c =>
    have h1 : 0 < d := by simpa [KindD.isRef] using hr
    exact .inl ⟨h1, brks_at h1 _⟩
  | cls d n =>
    rcases Nat.eq_zero_or_pos d with rfl | h
    · exact .inr ⟨rfl, rfl, n, rfl⟩
    · exact .inl ⟨h, brks_at h _⟩
theorem text_tail {k : KindD} (h : 0 < k.depth) : (bs k.text).extract 1 (bs k.text).size = bs k.elem.text ∧ 1 ≤ (bs k.text).size := by
  rw [elem_text h]
  refine ⟨?_, by rw [bs_size]; simp⟩
  rw [ext_bs, bs_size, List.take_length]
  rfl
theorem ktext_len {k : KindD} (hk : k.ok) : k.text.length ≤ 30 := by
  cases k with
  | nul => decide
  | top => decide
  | word d c =>
    have := hk.1
    simp [KindD.text, brks_len]
    omega
  | cls d n =>
    have := hk.1
    have := name_len hk.2
    simp [KindD.text, brks_len]
    omega
theorem kind_known {l : List ClassD} {d : Nat} {n : List UInt8} (hk : (KindD.cls d n).ok) (h : kindE l (KindD.cls d n).text = 0) : knownB l n = true := by
  rw [kindE_text hk] at h
  cases hb : knownB l n with
  | true => rfl
  | false =>
    rw [if_pos ⟨fun e => (by have := hk.2; rw [show n = [] from e] at this; cases this), hb⟩] at h
    cases h
theorem fits_noref {l : List ClassD} {a b : KindD} (hb : b ≠ .top) (hn : a ≠ .nul) (hab : a ≠ b) (h : a.isRef = false ∨ b.isRef = false) : ¬ FitsD l a b := by
  cases a with
  | nul => exact absurd rfl hn
  | top =>
    cases b with
    | top => exact absurd rfl hb
    | nul => exact id
    | word d c => exact id
    | cls d n => exact id
  | word d c =>
    cases b with
    | top => exact absurd rfl hb
    | nul => exact id
    | word e z => exact fun h => hab (by rw [h.1, h.2])
    | cls e n =>
      rcases h with h | h
      · have : d = 0 := by simpa [KindD.isRef] using h
        exact fun h => by have := h.2; omega
      · cases h
  | cls d m =>
    cases b with
    | top => exact absurd rfl hb
    | nul => exact id
    | word e z => exact id
    | cls e n => rcases h with h | h <;> cases h
theorem obj_text : (KindD.cls 0 objB).text = [76, 79, 98, 106, 101, 99, 116, 59] := rfl
theorem isRef_text {k : KindD} (hk : k.ok) (w : World) : Calls Tryz.prog 23 #[.string (bs k.text)] w fun e w' => e = .returned (.bool k.isRef) ∧ w = w' := by
  have h := isRef_any (bs k.text) w (by rw [bs_size]; have := ktext_len hk; unfold maxLen; omega)
  simp only [bs_list] at h
  rw [ref_iff hk] at h
  exact h
theorem quiet_here {P : Program} {f : FuncId} {args : Array Value} {w : World} {n : Nat} {u : Value} (h : Calls P f args (w.drewN n) fun e w' => e = .returned u ∧ w.drewN n = w') :
    Calls P f args (w.drewN n) fun e w'' => e = .returned u ∧ ∃ m, w'' = w.drewN m := h.mono fun _ _ ⟨he, hm⟩ => ⟨he, n, hm.symm⟩
theorem cut_text {s e : ByteArray} (h : s.extract 1 s.size = e) (h1 : 1 ≤ s.size) (W : World) : (Instr.sliceAt 9 (.string s) (some (.int .i64 1)) none none).run Tryz.prog W = .ok (.string e) W := by
  rw [run_sliceAt_string W _ _ _ _ _ Tryz.underlying9, run_slice_string_l W _ s Tryz.underlying9 .i64 1 (by decide) (by omega), ← h]
  rfl
end Go.Proofs.YtnmfcckahglbbaaGreatDoor
