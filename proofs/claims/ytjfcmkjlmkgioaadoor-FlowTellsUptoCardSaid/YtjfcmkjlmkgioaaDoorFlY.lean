/- The contracts of the reference's Reached (as many rounds as there are places) and CodeFault. -/
import Derived.Test.YtjfcmkjlmkgioaaDoorFlX
import Derived.Test.YtjfcmkjlmkgioaaDoorInG
namespace Go.Proofs.YtjfcmkjlmkgioaaDoor
open Go.ChangeShapes Go.WideShapes Go.ChangeAt Go.RowKit
set_option linter.unusedVariables false
attribute [local go_sem] eqGuard_errV_nil eqGuard_errV_iface eql_errV_nil neq_errV_nil eql_errV_form

/-! The rounds on sets. -/
def Sound (l : List InsD) (s : Nat → Bool) : Prop := s 0 = true ∧ ∀ i, s i = true → Path l 0 i
def Closed (l : List InsD) (s : Nat → Bool) : Prop := ∀ i, s i = true → ∀ j ∈ aftM l i, s j = true
theorem Sound.put {l : List InsD} {s : Nat → Bool} (h : Sound l s) {i t : Nat} (hi : s i = true) (ht : t ∈ aftM l i) : Sound l (putB s t) :=
  ⟨putB_mono _ _ _ h.1, fun j hj => by
    unfold putB at hj
    split at hj
    · rename_i e; subst e; exact (h.2 i hi).more ht
    · exact h.2 j hj⟩
theorem sound_start (l : List InsD) : Sound l (putB (fun _ => false) 0) := ⟨putB_at _ _, fun i hi => by
  unfold putB at hi
  split at hi
  · rename_i e; subst e; exact .here _
  · cases hi⟩
theorem Sound.all {l : List InsD} {s : Nat → Bool} (h : Sound l s) (hc : Closed l s) (i : Nat) : s i = true ↔ Path l 0 i := ⟨h.2 i, fun hp => hp.within s h.1 hc⟩
/-- Behind a round. -/
theorem round_end {l : List InsD} (hl : FlowOk l) {s0 s : Nat → Bool} {r : Nat} (h0 : Sound l s0) (h : Sound l s) (hm : ∀ i, s0 i = true → s i = true) (hd : ∀ i, i < l.length → s0 i = true → ∀ j ∈ aftM l i, s j = true)
    (hr : Closed l s0 ∨ cnt s0 l.length + r + 1 ≤ l.length) : Closed l s ∨ cnt s l.length + (r + 1) + 1 ≤ l.length := by
  rcases hr with hc | hr
  · refine .inl fun i hi j hj => hm j ?_
    have := (h0.all hc i).2 (h.2 i hi)
    exact hc i this j hj
  · by_cases hx : ∃ i, i < l.length ∧ s i = true ∧ s0 i = false
    · obtain ⟨i, hi, h1, h2⟩ := hx
      have := cnt_lt hm h2 h1 hi
      exact .inr (by omega)
    · refine .inl fun i hi j hj => ?_
      have hlt := (h.2 i hi).lt hl hl.2.2.2.1
      refine hd i hlt ?_ j hj
      cases h3 : s0 i with
      | true => rfl
      | false => exact absurd ⟨i, hlt, hi, h3⟩ hx
theorem rounds_done {l : List InsD} {s : Nat → Bool} (hr : Closed l s ∨ cnt s l.length + l.length + 1 ≤ l.length) : Closed l s := by
  rcases hr with h | h
  · exact h
  · omega
theorem rounds_start {l : List InsD} (hl : FlowOk l) : Closed l (putB (fun _ => false) 0) ∨ cnt (putB (fun _ => false) 0) l.length + 0 + 1 ≤ l.length := by
  have := cnt_lt (f := fun _ => false) (g := putB (fun _ => false) 0) (fun i hi => by cases hi) rfl (putB_at _ _) hl.2.2.2.1
  have := cnt_top (fun _ => false) l.length
  exact .inr (by omega)

/-- What Reached says. -/
def ReachedSays (w : World) (l : List InsD) (e : Ending) (w' : World) : Prop :=
  ∃ g s, e = .returned (.slice (some ⟨g, 0, none⟩) l.length l.length) ∧ Found w' g l.length s ∧ (∀ i, s i = true ↔ Path l 0 i) ∧ Below w.heap.size w w'

set_option maxRecDepth 20000 in
set_option maxHeartbeats 8000000 in
theorem rreached_any (l : List InsD) (hl : FlowOk l) (A : Option Addr) (c : Nat) (B : Option Addr) (d : Nat) (w : World) (R : InsRow w A l.length c l) (RB : Row w B 1 d ([0].map natV)) (hB : ∀ a, B = some a → a.block < w.heap.size) :
    Calls Tryd.prog 16 #[.slice A l.length c, .slice B 1 d] w (ReachedSays w l) := by
  have h40 : l.length ≤ 40 := hl.1
  have hpos : 0 < l.length := hl.2.2.2.1
  have hA := R.blk hpos
  have hmk := fun W => make_bools W l.length (by omega)
  have HL := Lib.hid hl
  have HAf := Lib.hid (fun (k : Nat) (hk : k < l.length) W R => rafter_any l A l.length c k W R hk h40 hl.jump)
  have HA := Lib.hid (fun a ha => Nat.ne_of_lt (hA a ha))
  have HB := Lib.hid (fun a ha => Nat.ne_of_lt (hB a ha))
  have HO0 := Lib.hid (Only.refl w.heap.size (w.alloc (.cells (madeCells #[.bool false] l.length) 4)))
  have HF0 := Lib.hid (found_made w l.length)
  have HR := Lib.hid (R.alloc (.cells (madeCells #[.bool false] l.length) 4))
  have HRB := Lib.hid (RB.alloc (.cells (madeCells #[.bool false] l.length) 4))
  have HW := Lib.hid (al1 w (.cells (madeCells #[.bool false] l.length) 4))
  have hgw : w.heap.size < (w.alloc (.cells (madeCells #[.bool false] l.length) 4)).heap.size := by simp
  clear R RB hA hB hl
  go_enter Tryd.func16, Tryd.ntmps16
  go_wp2_with fail
  generalize hv : w.alloc (.cells (madeCells #[.bool false] l.length) 4) = v at *
  generalize hgE : w.heap.size = g at *
  replace hgE := Lib.hid hgE
  replace hv := Lib.hid hv
  go_loopw [6] (fun i wr => (i = .int .i64 0 ∧ Hid (Found wr g l.length (fun _ => false)) ∧ Hid (Only g v wr)) ∨ (i = .int .i64 1 ∧ Hid (Found wr g l.length (putB (fun _ => false) 0)) ∧ Hid (Only g v wr))) (fun i _ => 1 - (intOf i).toNat)
  case atStart => exact .inl ⟨rfl, HF0, HO0⟩
  case round =>
    rcases hrel with ⟨rfl, HF, HO⟩ | ⟨rfl, HF, HO⟩
    · obtain ⟨b1, o1, u1, rfl, hb1, hu1, hc1⟩ := (HRB.out.only HB.out HO.out).at_ (k := 0) (by decide)
      obtain rfl := Option.some.inj hu1
      unfold natV at hc1
      rw [Nat.add_zero] at hc1
      have hct := HF.out.cell hpos
      have hfz := HF.out.frozen 0
      have HF2 := Lib.hid (HF.out.put 0)
      have HO2 := Lib.hid (HO.out.set 0 (.bool true))
      go_wp2_with fail
      go_round
      case rel => exact .inr ⟨rfl, HF2, HO2⟩
      case measure => first | (simp [intOf]; omega) | simp [intOf]
    · go_wp2_with fail
      go_loopw [7, 8, 9, 10] (fun r _ _ _ wr => ∃ (j : Nat) (s : Nat → Bool), j ≤ l.length ∧ r = .int .i64 j ∧ Hid (Found wr g l.length s) ∧ Hid (Only g v wr) ∧ Hid (Sound l s) ∧ Hid (Closed l s ∨ cnt s l.length + j + 1 ≤ l.length)) (fun r _ _ _ _ => l.length - (intOf r).toNat)
      case atStart => exact ⟨0, _, Nat.zero_le _, rfl, HF, HO, Lib.hid (sound_start l), Lib.hid (rounds_start HL.out)⟩
      case round =>
        obtain ⟨r, s0, hr, rfl, HF, HO, HS0, HC0⟩ := hrel
        by_cases hlt : r < l.length
        · go_wp2_with fail
          go_loopw [8, 9, 10] (fun i _ _ wr => ∃ (j : Nat) (s : Nat → Bool), j ≤ l.length ∧ i = .int .i64 j ∧ Hid (Found wr g l.length s) ∧ Hid (Only g v wr) ∧ Hid (Sound l s) ∧ Hid (∀ i, s0 i = true → s i = true) ∧ Hid (∀ i, i < j → s0 i = true → ∀ t ∈ aftM l i, s t = true)) (fun i _ _ _ => l.length - (intOf i).toNat)
          case atStart => exact ⟨0, s0, Nat.zero_le _, rfl, HF, HO, HS0, Lib.hid (fun _ h => h), Lib.hid (fun i hi => by omega)⟩
          case round =>
            obtain ⟨i, s1, hi, rfl, HF1, HO1, HS1, HM1, HD1⟩ := hrel
            by_cases hlt2 : i < l.length
            · have HLT := Lib.hid (aft_lt HL.out hlt2)
              have HAi := Lib.hid (HAf.out i hlt2 _ (HR.out.only HA.out HO1.out))
              have hx2 := aft_len l i
              generalize hX : aftM l i = xs at *
              have HX := Lib.hid hX
              clear hX
              go_wp2_with (first
                | (go_at_call 14; (with_reducible refine HAi.out.mono ?_); rintro e w2 ⟨v2, rfl, hv2, hb2⟩
                   obtain ⟨B2, d2, rfl, hr2, hB2⟩ := own_row hv2
                   have HB2 := Lib.hid (show ∀ a, B2 = some a → a.block ≠ g from fun a ha => Nat.ne_of_gt (Nat.lt_of_lt_of_le (Nat.lt_of_lt_of_le hgw HO1.out.1.size) (hB2 a ha).1))
                   have HR2 := Lib.hid hr2
                   have HO2 := Lib.hid (HO1.out.below hb2 hgw)
                   have HF2 := Lib.hid (HF1.out.below hb2)
                   clear hv2 hb2 hr2 hB2))
              go_loopw [10] (fun k wr => ∃ (j : Nat) (s : Nat → Bool), j ≤ xs.length ∧ k = .int .i64 j ∧ Hid (Found wr g l.length s) ∧ Hid (Only g v wr) ∧ Hid (Row wr B2 xs.length d2 (xs.map natV)) ∧ Hid (Sound l s) ∧ Hid (∀ i, s1 i = true → s i = true) ∧ Hid (∀ t ∈ xs.take j, s t = true)) (fun k _ => xs.length - (intOf k).toNat)
              case atStart => exact ⟨0, s1, Nat.zero_le _, rfl, HF2, HO2, HR2, HS1, Lib.hid (fun _ h => h), Lib.hid (fun t ht => by cases ht)⟩
              case round =>
                obtain ⟨k, s, hk, rfl, HF3, HO3, HR3, HS3, HM3, HD3⟩ := hrel
                have hci := HF3.out.cell hlt2
                by_cases hlt3 : k < xs.length
                · cases hsi : s i with
                  | true =>
                    rw [hsi] at hci
                    obtain ⟨b1, o1, u1, rfl, hb1, hu1, hc1⟩ := HR3.out.at_ hlt3
                    obtain rfl : natV xs[k] = u1 := by simpa [hlt3] using hu1
                    have htn := HLT.out xs[k] (List.getElem_mem hlt3)
                    have HSp := Lib.hid (HS3.out.put hsi (by rw [HX.out]; exact List.getElem_mem hlt3 : xs[k] ∈ aftM l i))
                    have HDp := Lib.hid (show ∀ t ∈ xs.take (k + 1), putB s xs[k] t = true from fun t ht => by
                      rw [List.take_succ_eq_append_getElem hlt3] at ht
                      rcases List.mem_append.1 ht with h | h
                      · exact putB_mono _ _ _ (HD3.out t h)
                      · obtain rfl := List.mem_singleton.1 h; exact putB_at _ _)
                    have HMp := Lib.hid (show ∀ i, s1 i = true → putB s xs[k] i = true from fun i hi => putB_mono _ _ _ (HM3.out i hi))
                    clear hu1
                    generalize xs[k] = t at *
                    unfold natV at hc1
                    have hct := HF3.out.cell htn
                    have hfz := HF3.out.frozen t
                    have HFp := Lib.hid (HF3.out.put t)
                    have HOp := Lib.hid (HO3.out.set t (.bool true))
                    have HRp := Lib.hid (HR3.out.only HB2.out ((Only.refl g wr).set t (.bool true)))
                    clear hsi
                    go_wp2_with fail
                    go_round
                    case rel => exact ⟨k + 1, _, by omega, by go_num, HFp, HOp, HRp, HSp, HMp, HDp⟩
                    case measure => first | (simp [intOf]; omega) | simp [intOf]
                  | false =>
                    rw [hsi] at hci
                    have HD4 := Lib.hid (show ∀ i', i' < i + 1 → s0 i' = true → ∀ t ∈ aftM l i', s t = true from fun i' hi' h0 t ht => by
                      by_cases e : i' = i
                      · subst e
                        have := HM3.out _ (HM1.out _ h0)
                        rw [hsi] at this; cases this
                      · exact HM3.out _ (HD1.out i' (by omega) h0 t ht))
                    have HM4 := Lib.hid (show ∀ i, s0 i = true → s i = true from fun i h => HM3.out i (HM1.out i h))
                    clear hsi
                    go_wp2_with fail
                    go_round
                    case rel => exact ⟨i + 1, s, by omega, by go_num, HF3, HO3, HS3, HM4, HD4⟩
                    case measure => first | (simp [intOf]; omega) | simp [intOf]
                · obtain rfl : k = xs.length := by omega
                  have HD4 := Lib.hid (show ∀ i', i' < i + 1 → s0 i' = true → ∀ t ∈ aftM l i', s t = true from fun i' hi' h0 t ht => by
                    by_cases e : i' = i
                    · subst e
                      rw [HX.out] at ht
                      exact HD3.out t (by rw [List.take_of_length_le (Nat.le_refl _)]; exact ht)
                    · exact HM3.out _ (HD1.out i' (by omega) h0 t ht))
                  have HM4 := Lib.hid (show ∀ i, s0 i = true → s i = true from fun i h => HM3.out i (HM1.out i h))
                  go_wp2_with fail
                  go_round
                  case rel => exact ⟨i + 1, s, by omega, by go_num, HF3, HO3, HS3, HM4, HD4⟩
                  case measure => first | (simp [intOf]; omega) | simp [intOf]
            · obtain rfl : i = l.length := by omega
              have HE := Lib.hid (round_end HL.out HS0.out HS1.out HM1.out HD1.out HC0.out)
              go_wp2_with fail
              go_round
              case rel => exact ⟨r + 1, s1, by omega, by go_num, HF1, HO1, HS1, HE⟩
              case measure => first | (simp [intOf]; omega) | simp [intOf]
        · obtain rfl : r = l.length := by omega
          have HE := Lib.hid (HS0.out.all (rounds_done HC0.out))
          go_wp2
          go_ret
          exact ⟨g, s0, rfl, HF.out, HE.out, by rw [hgE.out]; exact HW.out.trans HO.out.1⟩

def InsD.small (x : InsD) : Prop := x.ty.length ≤ 1048576 ∧ x.cl.length ≤ 1048576 ∧ x.nm.length ≤ 1048576
set_option maxRecDepth 20000 in
set_option maxHeartbeats 4000000 in
theorem rfault_any (l : List InsD) (A : Option Addr) (n c : Nat) (w : World) (R : InsRow w A n c l) (hs : ∀ x ∈ l, x.small) (hn : n ≤ 1048576) :
    Calls Tryd.prog 9 #[.slice A n c] w fun e w' => e = .returned (.int .i64 (flowF l : Int)) ∧ Below w.heap.size w w' := by
  have hl : l.length = n := R.1
  by_cases h40 : 40 < n
  · have HC := Lib.hid (flowF_full (l := l) (by omega))
    clear hl
    go_enter Tryd.func9, Tryd.ntmps9
    go_wp2
    go_ret
    exact ⟨ret_int (by rw [HC.out]; rfl), Below.refl _ _⟩
  · have HL := Lib.hid hl
    have HR := Lib.hid R
    have HS := Lib.hid hs
    have H40 := Lib.hid (show ¬ 40 < l.length by omega)
    clear hl R hs
    go_enter Tryd.func9, Tryd.ntmps9
    go_wp2_with fail
    go_loopw [3, 4] (fun i _ wr => ∃ j : Nat, j ≤ n ∧ i = .int .i64 j ∧ Hid (∀ x ∈ l.take j, insF x = 0) ∧ Hid (Below w.heap.size w wr)) (fun i _ _ => n - (intOf i).toNat)
    case atStart => exact ⟨0, Nat.zero_le _, rfl, Lib.hid (fun x hx => by cases hx), Lib.hid (Below.refl _ _)⟩
    case round =>
      obtain ⟨j, hj, rfl, HG, HB⟩ := hrel
      by_cases hlt : j < n
      · obtain ⟨b1, o1, rfl, hb1, hx1⟩ := (HR.out.below HB.out).at_ hlt
        have hj1 : j < l.length := by rw [HL.out]; exact hlt
        have hfx := HS.out l[j] (List.getElem_mem _)
        have HX := fun w => fault_any l[j] w hfx.1 hfx.2.1 hfx.2.2
        clear hfx
        by_cases h0 : insF l[j] = 0
        · have HG2 := Lib.hid (take_next hj1 HG.out h0)
          rw [h0] at HX
          clear h0
          generalize l[j] = x at *
          obtain ⟨xo, xa, xb, xt, xc, xn⟩ := x
          obtain ⟨c0, c1, c2, c3, c4, c5⟩ := hx1
          unfold insV at HX
          replace HX := Lib.hid HX
          go_wp2_with (first
            | (go_at_call 21; (with_reducible refine (HX.out _).mono ?_); rintro e w1 ⟨rfl, b1⟩
               have HB1 := Lib.hid (bnext HB.out b1)
               clear b1))
          go_round
          case rel => exact ⟨j + 1, by omega, by go_num, HG2, HB1⟩
          case measure => first | (simp [intOf]; omega) | simp [intOf]
        · have HC := Lib.hid (flowF_bad H40.out hj1 HG.out h0)
          have hne : ((insF l[j] : Int) != 0) = true := by rw [bne_iff_ne]; omega
          clear h0
          generalize insF l[j] = f at *
          generalize l[j] = x at *
          obtain ⟨xo, xa, xb, xt, xc, xn⟩ := x
          obtain ⟨c0, c1, c2, c3, c4, c5⟩ := hx1
          unfold insV at HX
          replace HX := Lib.hid HX
          go_wp2_with (first
            | (go_at_call 21; (with_reducible refine (HX.out _).mono ?_); rintro e w1 ⟨rfl, b1⟩
               have HB1 := Lib.hid (bnext HB.out b1)
               clear b1))
          go_ret
          exact ⟨ret_int (by rw [HC.out]), HB1.out⟩
      · obtain rfl : j = n := by omega
        have HG0 := HG.out
        rw [List.take_of_length_le (by rw [HL.out]; exact Nat.le_refl _)] at HG0
        replace HG0 := Lib.hid HG0
        clear HG hlt hj
        go_wp2_with fail
        go_loopw [5] (fun i wr => ∃ k : Nat, k ≤ j ∧ i = .int .i64 k ∧ Hid (∀ x ∈ l.take k, farB j x = false) ∧ Hid (Below w.heap.size w wr)) (fun i _ => j - (intOf i).toNat)
        case atStart => exact ⟨0, Nat.zero_le _, rfl, Lib.hid (fun x hx => by cases hx), HB⟩
        case round =>
          obtain ⟨k, hk, rfl, HG, HB⟩ := hrel
          by_cases hlt : k < j
          · obtain ⟨b1, o1, rfl, hb1, hx1⟩ := (HR.out.below HB.out).at_ hlt
            have hj1 : k < l.length := by rw [HL.out]; exact hlt
            have HJ := fun w => rjumps_any l[k].op w
            have HFar := Lib.hid (show farB l.length l[k] = true → flowF l = 2 from fun h => flowF_far H40.out HG0.out hj1 h)
            have HG2 := Lib.hid (show farB j l[k] = false → _ from fun h => take_next hj1 HG.out h)
            rw [HL.out] at HFar
            unfold farB at HFar
            generalize l[k] = x at *
            obtain ⟨xo, xa, xb, xt, xc, xn⟩ := x
            obtain ⟨c0, c1, c2, c3, c4, c5⟩ := hx1
            have hcase : (jumpB xo = false ∧ Hid (∀ x ∈ l.take (k + 1), farB j x = false)) ∨ (jumpB xo = true ∧ ¬ (j : Int) ≤ xa ∧ Hid (∀ x ∈ l.take (k + 1), farB j x = false)) ∨ (jumpB xo = true ∧ (j : Int) ≤ xa ∧ Hid (flowF l = 2)) := by
              cases hjb : jumpB xo with
              | false => exact .inl ⟨rfl, Lib.hid (HG2.out (by simp [farB, hjb]))⟩
              | true =>
                by_cases hna : (j : Int) ≤ xa
                · exact .inr (.inr ⟨rfl, hna, Lib.hid (HFar.out (by simp [hjb, hna]))⟩)
                · exact .inr (.inl ⟨rfl, hna, Lib.hid (HG2.out (by simp [farB, hjb, hna]))⟩)
            clear HFar HG2
            rcases hcase with ⟨hjb, HH⟩ | ⟨hjb, hna, HH⟩ | ⟨hjb, hna, HH⟩
            all_goals
              simp only [hjb] at HJ
              replace HJ := Lib.hid HJ
            · go_wp2_with (first
                | (go_at_call 20; (with_reducible refine (HJ.out _).mono ?_); rintro e w1 ⟨rfl, rfl⟩))
              go_round
              case rel => exact ⟨k + 1, by omega, by go_num, HH, HB⟩
              case measure => first | (simp [intOf]; omega) | simp [intOf]
            · go_wp2_with (first
                | (go_at_call 20; (with_reducible refine (HJ.out _).mono ?_); rintro e w1 ⟨rfl, rfl⟩))
              go_round
              case rel => exact ⟨k + 1, by omega, by go_num, HH, HB⟩
              case measure => first | (simp [intOf]; omega) | simp [intOf]
            · go_wp2_with (first
                | (go_at_call 20; (with_reducible refine (HJ.out _).mono ?_); rintro e w1 ⟨rfl, rfl⟩))
              go_ret
              exact ⟨ret_int (by rw [HH.out]; rfl), HB.out⟩
          · obtain rfl : k = j := by omega
            have HE := flowF_last H40.out HG0.out (by
              have h := HG.out
              rw [List.take_of_length_le (by rw [HL.out]; exact Nat.le_refl _)] at h
              rw [HL.out]; exact h)
            replace HE := Lib.hid HE
            clear HG
            by_cases h0 : k = 0
            · have hz : ((k : Int) == 0) = true := by simp [h0]
              have HZ := Lib.hid (show lastGoesB l = true by unfold lastGoesB; rw [HL.out, h0]; rfl)
              go_wp2
              go_ret
              exact ⟨ret_int (by rw [HE.out, HZ.out]; rfl), HB.out⟩
            · have hz : ((k : Int) == 0) = false := by rw [beq_eq_false_iff_ne]; omega
              obtain ⟨b1, o1, rfl, hb1, hx1⟩ := (HR.out.below HB.out).at_ (k := k - 1) (by omega)
              have HJ := fun w => rends_any (l[k - 1]'(by rw [HL.out]; omega)).op w
              have HZ : lastGoesB l = goesB (l[k - 1]'(by rw [HL.out]; omega)).op := lastGoes_at HL.out h0 _
              generalize (l[k - 1]'(by rw [HL.out]; omega)) = x at *
              obtain ⟨xo, xa, xb, xt, xc, xn⟩ := x
              obtain ⟨c0, c1, c2, c3, c4, c5⟩ := hx1
              simp only at HZ HJ
              have hk1 : IntKind.i64.wrap ((k : Int) - 1) = ((k - 1 : Nat) : Int) := by rw [IntKind.wrap_i64]; omega
              cases hgb : goesB xo
              all_goals
                rw [hgb] at HZ
                simp only [hgb] at HJ
                replace HZ := Lib.hid HZ
                replace HJ := Lib.hid HJ
                go_wp2_with (first
                  | (go_at_call 22; (with_reducible refine (HJ.out _).mono ?_); rintro e w1 ⟨rfl, rfl⟩))
                go_ret
                exact ⟨ret_int (by rw [HE.out, HZ.out]; rfl), HB.out⟩
end Go.Proofs.YtjfcmkjlmkgioaaDoor
