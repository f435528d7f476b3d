/- The contract of flow.mark, which calls itself: by induction on how many are not found yet. -/
import Derived.Test.YtjfcmkjlmkgioaaDoorFl2
namespace Go.Proofs.YtjfcmkjlmkgioaaDoor
open Go.ChangeShapes Go.WideShapes Go.ChangeAt Go.RowKit
set_option linter.unusedVariables false

theorem FlowOk.jump {l : List InsD} (h : FlowOk l) : ∀ x ∈ l, jumpB x.op = true → 0 ≤ x.a ∧ x.a ≤ 40 := fun x hx hj => good_jump (h.2.1 x hx).2 hj
theorem aft_len (l : List InsD) (k : Nat) : (aftM l k).length ≤ 2 := by
  unfold aftM nextM
  rw [List.length_append]
  split <;> split <;> simp
/-- What mark says. -/
def MarkSays (l : List InsD) (g k : Nat) (f : Nat → Bool) (w : World) (e : Ending) (w' : World) : Prop :=
  e = .returned (.tuple #[]) ∧ ∃ f', Marks l f f' k ∧ Found w' g l.length f' ∧ Only g w w'
set_option maxRecDepth 20000 in
set_option maxHeartbeats 4000000 in
theorem mark_any (l : List InsD) (hl : FlowOk l) (A : Option Addr) (c : Nat) (m : Nat) : ∀ (w : World) (g k : Nat) (f : Nat → Bool), cnt f l.length ≤ m → k < l.length → f k = false → InsRow w A l.length c l → (∀ a, A = some a → a.block ≠ g) → Found w g l.length f →
    Calls Tryd.prog 26 #[.slice (some ⟨g, 0, none⟩) l.length l.length, .slice A l.length c, .int .i64 (k : Int)] w (MarkSays l g k f w) := by
  induction m with
  | zero => intro w g k f hm hk hf; exact absurd (cnt_pos hf hk) (by omega)
  | succ m ih =>
    intro w g k f hm hk hf R hA hF
    have h40 : l.length ≤ 40 := hl.1
    have hu := hF.cell hk
    have hz := hF.frozen k
    have hg := hF.lt
    have HS := Lib.hid ((Only.refl g w).set k (.bool true))
    have HF1 := Lib.hid (hF.set k true)
    have HAf := Lib.hid (fafter_any l A l.length c k _ (R.only hA HS.out) hk h40 hl.jump)
    have HI := Lib.hid ih
    have HR := Lib.hid R
    have HA := Lib.hid hA
    have HL := Lib.hid hl
    have HK := Lib.hid (show ∀ fc : Nat → Bool, (∀ i, f i = true → fc i = true) → fc k = true → cnt fc l.length ≤ m from fun fc h1 h2 => by have := cnt_lt h1 hf h2 hk; omega)
    have HLT := Lib.hid (aft_lt hl hk)
    have HM0 := Lib.hid (Marking.start l f k)
    clear hl ih R hA hF hf hm
    have hx2 := aft_len l k
    generalize hX : aftM l k = xs at *
    have HX := Lib.hid hX
    clear hX
    have hgs : g < (w.setCell ⟨g, k, none⟩ (.bool true)).heap.size := Nat.lt_of_lt_of_le hg HS.out.1.size
    go_enter Tryd.func26, Tryd.ntmps26
    go_wp2_with (first
      | (go_at_call 27; (with_reducible refine HAf.out.mono ?_); rintro e w2 ⟨v, rfl, hv, hb⟩
         obtain ⟨B, d, rfl, hr, hB⟩ := own_row hv
         have HB := Lib.hid (show ∀ a, B = some a → a.block ≠ g from fun a ha => Nat.ne_of_gt (Nat.lt_of_lt_of_le hgs (hB a ha).1))
         have HR2 := Lib.hid hr
         have HS2 := Lib.hid (HS.out.below hb hg)
         have HF2 := Lib.hid (HF1.out.below hb)
         clear hv hb hr hB))
    go_loopw [7, 15] (fun _ i wr => ∃ (j : Nat) (fc : Nat → Bool), j ≤ xs.length ∧ i = .int .i64 j ∧ Hid (Marking l f fc k (xs.take j)) ∧ Hid (Found wr g l.length fc) ∧ Hid (Row wr B xs.length d (xs.map natV)) ∧ Hid (Only g w wr)) (fun _ i _ => xs.length - (intOf i).toNat)
    case atStart => exact ⟨0, _, Nat.zero_le _, rfl, HM0, HF2, HR2, HS2⟩
    case round =>
      obtain ⟨j, fc, hj, rfl, HMg, HFc, HRc, HSc⟩ := hrel
      by_cases hlt : j < xs.length
      · obtain ⟨b1, o1, u1, rfl, hb1, hu1, hc1⟩ := HRc.out.at_ hlt
        obtain rfl : natV xs[j] = u1 := by simpa [hlt] using hu1
        have htn := HLT.out xs[j] (List.getElem_mem hlt)
        have HMs := Lib.hid (show Marking l f fc k (xs.take (j + 1)) ∨ fc xs[j] = false from by
          cases h : fc xs[j] with
          | false => exact .inr rfl
          | true => exact .inl (by rw [List.take_succ_eq_append_getElem hlt]; exact HMg.out.skip h))
        have HMc := Lib.hid (show ∀ fd : Nat → Bool, Marks l fc fd xs[j] → Marking l f fd k (xs.take (j + 1)) from fun fd h => by
          rw [List.take_succ_eq_append_getElem hlt]
          exact HMg.out.call (by rw [HX.out]; exact List.getElem_mem hlt) h)
        clear hu1
        generalize xs[j] = t at *
        unfold natV at hc1
        have hct := HFc.out.cell htn
        cases hfc : fc t with
        | true =>
          rw [hfc] at hct
          have HM1 := Lib.hid (show Marking l f fc k (xs.take (j + 1)) from HMs.out.resolve_right (by rw [hfc]; simp))
          clear hfc HMs HMc
          go_wp2_with fail
          go_round
          case rel => exact ⟨j + 1, fc, by omega, by go_num, HM1, HFc, HRc, HSc⟩
          case measure => first | (simp [intOf]; omega) | simp [intOf]
        | false =>
          rw [hfc] at hct
          have HCall := Lib.hid (HI.out _ g t fc (HK.out _ HMg.out.1 HMg.out.2.1) htn hfc (HR.out.only HA.out HSc.out) HA.out HFc.out)
          clear hfc HMs
          go_wp2_with (first
            | (go_at_call 26; (with_reducible refine HCall.out.mono ?_); rintro e w3 ⟨rfl, fd, hm, hf, ho⟩
               have HM1 := Lib.hid (HMc.out _ hm)
               have HF3 := Lib.hid hf
               have HR3 := Lib.hid (HRc.out.only HB.out ho)
               have HS3 := Lib.hid (HSc.out.trans ho)
               clear hm hf ho))
          go_round
          case rel => exact ⟨j + 1, fd, by omega, by go_num, HM1, HF3, HR3, HS3⟩
          case measure => first | (simp [intOf]; omega) | simp [intOf]
      · obtain rfl : j = xs.length := by omega
        have HD := Lib.hid (show Marks l f fc k from by
          have h := HMg.out
          rw [List.take_of_length_le (Nat.le_refl _), ← HX.out] at h
          exact h.done)
        go_wp2
        go_end0
        exact ⟨rfl, fc, HD.out, HFc.out, HSc.out⟩
end Go.Proofs.YtjfcmkjlmkgioaaDoor
