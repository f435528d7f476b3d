/- The contracts of flow.Reach and flow.Next. -/
import Derived.Test.YtjfcmkjlmkgioaaDoorFl3
namespace Go.Proofs.YtjfcmkjlmkgioaaDoor
open Go.ChangeShapes Go.WideShapes Go.ChangeAt Go.RowKit
set_option linter.unusedVariables false
attribute [local go_sem] eqGuard_errV_nil eqGuard_errV_iface eql_errV_nil neq_errV_nil eql_errV_form

theorem filter_next (f : Nat → Bool) (j : Nat) : (List.range (j + 1)).filter f = (List.range j).filter f ++ (if f j = true then [j] else []) := by
  rw [List.range_succ, List.filter_append]
  congr 1
  cases h : f j <;> simp [h]
theorem filter_len (f : Nat → Bool) (j : Nat) : ((List.range j).filter f).length ≤ j := Nat.le_trans (List.length_filter_le _ _) (by simp)
theorem bool_info : (Tryd.prog.info? 4).map (fun i => (i.zero, i.size, i.bytes)) = some (some (.bool false), 1, 1) := by kernel_rfl
theorem make_bools (w : World) (n : Nat) (hn : n ≤ 1048576) : (Instr.makeSlice 36 (.int .i64 (n : Int)) (.int .i64 (n : Int))).run Tryd.prog w = .ok (.slice (some ⟨w.heap.size, 0, none⟩) n n) (w.alloc (.cells (madeCells #[.bool false] n) 4)) := by
  obtain ⟨i0, hi, hz0, hz1, hz2⟩ := info_parts bool_info
  have h := run_make (P := Tryd.prog) w 36 4 i0 (.bool false) Tryd.underlying36 hi hz0 .i64 .i64 (n : Int) (n : Int) (by omega) (by omega) (by rw [hz2]; omega) (by omega)
  rw [hz1] at h
  simpa [Value.cells] using h
theorem InsRow.blk {w : World} {A : Option Addr} {n c : Nat} {l : List InsD} (R : InsRow w A n c l) (h : 0 < n) : ∀ a, A = some a → a.block < w.heap.size := fun a ha => by
  obtain ⟨b, o, e, hb, _⟩ := R.2.2 h
  rw [ha] at e
  obtain rfl := Option.some.inj e
  exact hb
/-- What Reach says: xs is what is reached. -/
def ReachSays (w : World) (l : List InsD) (xs : List Nat) (e : Ending) (w' : World) : Prop :=
  Below w.heap.size w w' ∧ ((flowF l = 0 ∧ ∃ v, e = .returned (.tuple #[v, errV 0]) ∧ w'.ownsRow w.heap.size 3 1 v xs.length (xs.map natV)) ∨ (flowF l ≠ 0 ∧ e = .returned (.tuple #[.slice none 0 0, errV (flowF l)])))
set_option maxRecDepth 20000 in
set_option maxHeartbeats 4000000 in
theorem reach_any (l : List InsD) (xs : List Nat) (hxs : ReachL l xs) (A : Option Addr) (n c : Nat) (w : World) (T : Tab w) (R : InsRow w A n c l) (hw : ∀ x ∈ l, x.wf) (hf : ∀ x ∈ l, x.fits) :
    Calls Tryd.prog 12 #[.slice A n c] w (ReachSays w l xs) := by
  have hl : l.length = n := R.1
  subst hl
  have HC := fun W => fcheck_any l A l.length c W
  by_cases h0 : flowF l = 0
  · have hok := (flowF_ok hw).1 h0
    have h40 : l.length ≤ 40 := hok.1
    have hpos : 0 < l.length := hok.2.2.2.1
    rw [h0] at HC
    have HCk := Lib.hid (HC w T R hw hf)
    have HR := Lib.hid R
    have HA := Lib.hid (R.blk hpos)
    have H0 := Lib.hid h0
    have HX := Lib.hid hxs
    have HM := Lib.hid (fun (W : World) (g : Nat) hR hne hF => mark_any l hok A c l.length W g 0 (fun _ => false) (cnt_top _ _) hpos rfl hR hne hF)
    have hmk := fun W => make_bools W l.length (by omega)
    clear HC T R hw hf h0 hok hxs
    go_enter Tryd.func12, Tryd.ntmps12
    go_wp2_with (first
      | (go_at_call 11; (with_reducible refine HCk.out.mono ?_); rintro e w1 ⟨rfl, b1⟩
         have HB1 := Lib.hid b1
         clear b1)
      | (go_at_call 26; (refine (HM.out _ w1.heap.size ((HR.out.below HB1.out).below (al1 _ _)) (fun a ha => Nat.ne_of_lt (Nat.lt_of_lt_of_le (HA.out a ha) HB1.out.size)) (found_made w1 l.length)).mono ?_); rintro e w2 ⟨rfl, f, hm, hf, ho⟩
         have HF2 := Lib.hid hf
         have hg2 := hf.lt
         have HB2 := Lib.hid ((HB1.out.alloc HB1.out.size _).trans (ho.base HB1.out.size))
         have HE := Lib.hid (HX.out.of (g := f) (fun i _ => hm.reach i))
         clear hm hf ho))
    go_loopw [6, 7, 8, 22] (fun v _ _ i wr => ∃ j : Nat, j ≤ l.length ∧ i = .int .i64 j ∧ Hid (wr.ownsRow w2.heap.size 3 1 v ((List.range j).filter f).length (((List.range j).filter f).map natV)) ∧ Hid (Below w2.heap.size w2 wr)) (fun _ _ _ i _ => l.length - (intOf i).toNat)
    case atStart => exact ⟨0, Nat.zero_le _, rfl, Lib.hid (World.ownsRow_nil _ _ _ _), Lib.hid (Below.refl _ _)⟩
    case round =>
      obtain ⟨j, hj, rfl, HV, HB⟩ := hrel
      by_cases hlt : j < l.length
      · have hct := (HF2.out.below HB.out).cell hlt
        have HN := Lib.hid (filter_next f j)
        have hlen := filter_len f j
        have hsz := HB.out.size
        generalize hP : (List.range j).filter f = ps at *
        cases hfc : f j with
        | true =>
          rw [hfc] at hct HN
          replace HN := HN.out
          rw [if_pos rfl] at HN
          replace HN := Lib.hid HN
          clear hfc hP
          go_wp2_with (first
            | (at_builtin; refine wpList_nats rfl _ _ rfl w2.heap.size _ ps [j] rfl (HV.out.alloc _) _ 1 1 rfl (Row.nat1 _ j _ _) (by decide) (by omega) (by simp; omega) ?_
               intro v3 w3 hv hb
               rw [← HN.out] at hv
               have HV3 := Lib.hid hv
               have HB3 := Lib.hid ((HB.out.alloc hsz _).trans hb)
               clear hv hb))
          go_round
          case rel => exact ⟨j + 1, by omega, by go_num, HV3, HB3⟩
          case measure => first | (simp [intOf]; omega) | simp [intOf]
        | false =>
          rw [hfc] at hct HN
          replace HN := HN.out
          rw [if_neg (by simp), List.append_nil] at HN
          have HV3 := HV.out
          rw [← HN] at HV3
          replace HV3 := Lib.hid HV3
          clear hfc hP HN
          go_wp2_with fail
          go_round
          case rel => exact ⟨j + 1, by omega, by go_num, HV3, HB⟩
          case measure => first | (simp [intOf]; omega) | simp [intOf]
      · obtain rfl : j = l.length := by omega
        have HV4 := HV.out
        rw [HE.out] at HV4
        replace HV4 := Lib.hid (own_less HV4 HB2.out.size)
        have HB4 := Lib.hid (bnext HB2.out HB.out)
        go_wp2
        go_ret2
        exact ⟨HB4.out, .inl ⟨H0.out, _, rfl, HV4.out⟩⟩
  · have hne : (flowF l != 0) = true := by rw [bne_iff_ne]; exact h0
    have HCk := Lib.hid (HC w T R hw hf)
    have H0 := Lib.hid h0
    clear HC T R hw hf h0 hxs
    unfold ReachSays
    generalize flowF l = q at *
    go_enter Tryd.func12, Tryd.ntmps12
    go_wp2_with (first
      | (go_at_call 11; (with_reducible refine HCk.out.mono ?_); rintro e w1 ⟨rfl, b1⟩
         have HB1 := Lib.hid b1
         clear b1))
    go_ret2
    exact ⟨HB1.out, .inr ⟨H0.out, rfl⟩⟩

/-- What Next says. -/
def NextSays (w : World) (l : List InsD) (k : Int) (e : Ending) (w' : World) : Prop :=
  Below w.heap.size w w' ∧ ((flowF l ≠ 0 ∧ e = .returned (.tuple #[.slice none 0 0, errV (flowF l)])) ∨ (flowF l = 0 ∧ ¬ (0 ≤ k ∧ k < (l.length : Int)) ∧ e = .returned (.tuple #[.slice none 0 0, errV 2])) ∨
    (flowF l = 0 ∧ ∃ j : Nat, k = (j : Int) ∧ j < l.length ∧ ∃ v, e = .returned (.tuple #[v, errV 0]) ∧ w'.ownsRow w.heap.size 3 1 v (aftM l j).length ((aftM l j).map natV)))
set_option maxRecDepth 20000 in
set_option maxHeartbeats 4000000 in
theorem next_any (l : List InsD) (A : Option Addr) (n c : Nat) (k : Int) (w : World) (T : Tab w) (R : InsRow w A n c l) (hw : ∀ x ∈ l, x.wf) (hf : ∀ x ∈ l, x.fits) :
    Calls Tryd.prog 13 #[.slice A n c, .int .i64 k] w (NextSays w l k) := by
  have hl : l.length = n := R.1
  subst hl
  have HC := fun W => fcheck_any l A l.length c W
  by_cases h0 : flowF l = 0
  · have hok := (flowF_ok hw).1 h0
    have h40 : l.length ≤ 40 := hok.1
    rw [h0] at HC
    have HCk := Lib.hid (HC w T R hw hf)
    have HR := Lib.hid R
    have H0 := Lib.hid h0
    by_cases hk : 0 ≤ k ∧ k < (l.length : Int)
    · obtain ⟨j, rfl⟩ : ∃ j : Nat, k = (j : Int) := ⟨k.toNat, by omega⟩
      have hj : j < l.length := by omega
      have HAf := Lib.hid (fun W R => fafter_any l A l.length c j W R hj h40 hok.jump)
      have HJ := Lib.hid hj
      clear HC T R hw hf h0 hok
      go_enter Tryd.func13, Tryd.ntmps13
      go_wp2_with (first
        | (go_at_call 11; (with_reducible refine HCk.out.mono ?_); rintro e w1 ⟨rfl, b1⟩
           have HB1 := Lib.hid b1
           clear b1)
        | (go_at_call 27; (with_reducible refine (HAf.out _ (HR.out.below HB1.out)).mono ?_); rintro e w2 ⟨v, rfl, hv, hb⟩
           have HV := Lib.hid (own_less hv HB1.out.size)
           have HB2 := Lib.hid (bnext HB1.out hb)
           clear hv hb))
      go_ret2
      exact ⟨HB2.out, .inr (.inr ⟨H0.out, j, rfl, HJ.out, _, rfl, HV.out⟩)⟩
    · have HK := Lib.hid hk
      have hcase : k < 0 ∨ (¬ k < 0 ∧ (l.length : Int) ≤ k) := by omega
      clear HC T R hw hf h0 hok hk
      rcases hcase with hk | ⟨hk1, hk2⟩
      all_goals
        go_enter Tryd.func13, Tryd.ntmps13
        go_wp2_with (first
          | (go_at_call 11; (with_reducible refine HCk.out.mono ?_); rintro e w1 ⟨rfl, b1⟩
             have HB1 := Lib.hid b1
             clear b1))
        all_goals first
          | (exfalso; omega)
          | (go_ret2
             exact ⟨HB1.out, .inr (.inl ⟨H0.out, HK.out, rfl⟩)⟩)
  · have hne : (flowF l != 0) = true := by rw [bne_iff_ne]; exact h0
    have HCk := Lib.hid (HC w T R hw hf)
    have H0 := Lib.hid h0
    clear HC T R hw hf h0
    unfold NextSays
    generalize flowF l = q at *
    go_enter Tryd.func13, Tryd.ntmps13
    go_wp2_with (first
      | (go_at_call 11; (with_reducible refine HCk.out.mono ?_); rintro e w1 ⟨rfl, b1⟩
         have HB1 := Lib.hid b1
         clear b1))
    go_ret2
    exact ⟨HB1.out, .inl ⟨H0.out, rfl⟩⟩
end Go.Proofs.YtjfcmkjlmkgioaaDoor
