/- The contracts of utf.joinUnit and firstUnit: what the first bytes say. -/
import Derived.Test.YtekpinicfgofgaaUt
namespace Go.Proofs.Ytekpinicfgofgaa
open Go.ChangeShapes Go.WideShapes Go.ChangeAt Go.RowKit
set_option linter.unusedVariables false

theorem ret_pair {k k' : IntKind} {a b c d : Int} (h : a = c) (h2 : b = d) : Ending.returned (.tuple #[.int k a, .int k' b]) = .returned (.tuple #[.int k c, .int k' d]) := by rw [h, h2]
theorem join_more (up : Nat) (l : List UInt8) (j : Nat) (h : j < l.length) : joinL up (l.take (j + 1)) = joinL up (l.take j) * 64 + l[j].toNat % 64 := by
  rw [List.take_add_one, List.getElem?_eq_getElem h]
  simp only [joinL, List.foldl_append, Option.toList_some, List.foldl_cons, List.foldl_nil]
theorem follow_more (l : List UInt8) (j : Nat) (h : j < l.length) (h0 : followB (l.take j) = true) (h1 : l[j].toNat / 64 = 2) : followB (l.take (j + 1)) = true := by
  rw [List.take_add_one, List.getElem?_eq_getElem h]
  simp only [followB, Option.toList_some, List.all_append, List.all_cons, List.all_nil, h1] at h0 ⊢
  rw [h0]; rfl
theorem follow_not (l : List UInt8) (j : Nat) (h : j < l.length) (h1 : l[j].toNat / 64 ≠ 2) : followB l = false := by
  rw [Bool.eq_false_iff]
  intro hf
  have := List.all_eq_true.1 hf l[j] (List.getElem_mem h)
  simp at this
  exact h1 this
theorem window (w : World) {A : Option Addr} {n c : Nat} {l : List UInt8} (R : Row w A n c (l.map byteV)) (m : Nat) (h : m + 1 ≤ n) :
    ∃ A' c', (∀ W, (Instr.sliceAt 23 (.slice A n c) (some (.int .i64 1)) (some (.int .i64 ((m + 1 : Nat) : Int))) none).run Try.prog W = .ok (.slice A' m c') W) ∧ Row w A' m c' (((l.take (m + 1)).drop 1).map byteV) := by
  refine ⟨cutA A c 1, c - 1, fun W => cut_lh W A n c 1 (m + 1) (by omega) (Nat.le_trans h R.2.1), ?_⟩
  have := R.cut (l := 1) (h := m + 1) (by omega) h
  rw [List.map_drop, List.map_take]
  exact this
theorem join_any (up m : Nat) (l : List UInt8) (A : Option Addr) (n c : Nat) (w : World) (R : Row w A n c (l.map byteV)) (hup : up < 65536) (hm : m ≤ 100)
    (hs : ∀ j, j < m → joinL up (((l.take (m + 1)).drop 1).take j) < 1024) :
    Calls Try.prog 20 #[.int .u16 (up : Int), .slice A n c, .int .i64 ((m + 1 : Nat) : Int)] w fun e w' => e = .returned (.tuple #[.int .u16 ((joinU up l (m + 1)).1 : Int), .int .i64 ((joinU up l (m + 1)).2 : Int)]) ∧ w = w' := by
  have hl : l.length = n := by simpa using R.1
  by_cases hn : m + 1 ≤ n
  · obtain ⟨A', c', hcut, R'⟩ := window w R m hn
    have hlen : ((l.take (m + 1)).drop 1).length = m := by simp; omega
    generalize hys : (l.take (m + 1)).drop 1 = ys at *
    have HJ := Lib.hid (show joinU up l (m + 1) = if followB ys = true then (joinL up ys, m + 1) else (0, 0) by simp [joinU, hl, hn, hys])
    have h1 : ¬ (n : Int) < ((m + 1 : Nat) : Int) := by omega
    clear hys R hl
    have HL := Lib.hid hlen
    clear hlen
    go_enter Try.func20, Try.ntmps20
    have HC := Lib.hid hcut
    clear hcut
    go_wp2_with (first | ((with_reducible refine wpList_slice (.slice A' m c') ?_ ?_); exact HC.out _))


    go_loop [8, 10, 20] (fun a _ i => ∃ j : Nat, j ≤ m ∧ i = .int .i64 j ∧ a = .int .u16 (joinL up (ys.take j) : Int) ∧ Hid (followB (ys.take j) = true)) (fun _ _ i => m - (intOf i).toNat)
    case atStart => exact ⟨0, Nat.zero_le _, rfl, rfl, Lib.hid rfl⟩
    case round =>
      obtain ⟨j, hj, rfl, rfl, HF⟩ := hrel
      by_cases hlt : j < m
      · obtain ⟨b1, o1, u1, rfl, hb1, hu1, hc1⟩ := R'.at_ hlt
        have hj1 : j < ys.length := by rw [HL.out]; exact hlt
        obtain rfl : byteV ys[j] = u1 := by simpa [hj1] using hu1
        unfold byteV at hc1
        clear hu1
        have hbd := hs j hlt
        have hy := byte_lt ys[j]
        by_cases hf : ys[j].toNat / 64 = 2
        · have HM := Lib.hid (join_more up ys j hj1)
          have HG := Lib.hid (follow_more ys j hj1 HF.out hf)
          generalize ys[j].toNat = y at *
          generalize joinL up (ys.take j) = x at *
          have hi : ((y : Int) / 64 != 2) = false := by rw [bne_eq_false_iff_eq]; omega
          clear hf
          go_wp2
          go_round
          case rel =>
            refine ⟨j + 1, by omega, by go_num, ?_, HG⟩
            rw [HM.out, u16_or _ _ (by omega) (by omega) (by omega) (by omega) (by omega)]
            simp
          case measure => first | (simp [intOf]; omega) | simp [intOf]
        · have HX := Lib.hid (follow_not ys j hj1 hf)
          generalize ys[j].toNat = y at *
          have hi : ((y : Int) / 64 != 2) = true := by rw [bne_iff_ne]; omega
          clear hf
          go_wp2
          go_ret2
          exact ⟨ret_pair (by rw [HJ.out, HX.out]; rfl) (by rw [HJ.out, HX.out]; rfl), rfl⟩
      · obtain rfl : j = m := by omega
        go_wp2
        go_ret2
        have hf := HF.out
        have hl := HL.out
        rw [List.take_of_length_le (by omega)] at hf
        refine ⟨ret_pair ?_ ?_, rfl⟩
        · rw [HJ.out, hf, List.take_of_length_le (by omega)]; rfl
        · rw [HJ.out, hf]; rfl
  · have HJ := Lib.hid (show joinU up l (m + 1) = (0, 0) by rw [joinU, if_neg (by rw [hl]; exact fun h => hn h.1)])
    have h1 : (n : Int) < ((m + 1 : Nat) : Int) := by omega
    clear hl
    go_enter Try.func20, Try.ntmps20
    go_wp2
    go_ret2
    exact ⟨ret_pair (by rw [HJ.out]; rfl) (by rw [HJ.out]; rfl), rfl⟩
theorem bound_one (up : Nat) (h : up < 16) (zs : List UInt8) (hz : zs.length ≤ 1) : joinL up zs < 1024 := by
  match zs, hz with
  | [], _ => simp [joinL]; omega
  | [z], _ => simp [joinL]; omega
theorem bound_none (up : Nat) (h : up < 1024) (zs : List UInt8) (hz : zs.length = 0) : joinL up zs < 1024 := by
  obtain rfl := List.eq_nil_of_length_eq_zero hz
  exact h
set_option maxRecDepth 20000 in
theorem firstUnit_any (l : List UInt8) (A : Option Addr) (n c : Nat) (w : World) (R : Row w A n c (l.map byteV)) (h0 : 0 < n) :
    Calls Try.prog 14 #[.slice A n c] w fun e w' => e = .returned (.tuple #[.int .u16 ((firstU l).1 : Int), .int .i64 ((firstU l).2 : Int)]) ∧ w = w' := by
  have hl : l.length = n := by simpa using R.1
  obtain ⟨b, o, u, rfl, hb, hu, hc⟩ := R.at_ h0
  obtain ⟨x, r, rfl⟩ : ∃ x r, l = x :: r := by
    match l, hl with
    | [], h => exact absurd h (by simp; omega)
    | x :: r, _ => exact ⟨x, r, rfl⟩
  obtain rfl : byteV x = u := by simpa using hu
  have hy := byte_lt x
  have hj2 := Lib.hid (join_any (x.toNat % 32) 1 (x :: r) _ n c w R (by omega) (by omega) (fun j hj => bound_none _ (by omega) _ (by simp; omega)))
  have hj3 := Lib.hid (join_any (x.toNat % 16) 2 (x :: r) _ n c w R (by omega) (by omega) (fun j hj => bound_one _ (by omega) _ (by simp; omega)))
  have HF := Lib.hid (show firstU (x :: r) = if x.toNat < 128 then (x.toNat, 1) else if x.toNat / 32 = 6 then joinU (x.toNat % 32) (x :: r) 2 else if x.toNat / 16 = 14 then joinU (x.toNat % 16) (x :: r) 3 else (0, 0) from rfl)
  rw [Nat.add_zero] at hc
  unfold byteV at hc
  clear R hu hl
  generalize x.toNat = y at *
  have hj2' := Lib.hid (show Calls Try.prog 20 #[.int .u16 ((y : Int) % 32), .slice (some ⟨b, o, none⟩) n c, .int .i64 2] w _ from by simpa using hj2.out)
  have hj3' := Lib.hid (show Calls Try.prog 20 #[.int .u16 ((y : Int) % 16), .slice (some ⟨b, o, none⟩) n c, .int .i64 3] w _ from by simpa using hj3.out)
  clear hj2 hj3
  by_cases h1 : y < 128
  · have hF := HF.out
    rw [if_pos h1] at hF
    have HG := Lib.hid hF
    clear hF
    go_enter Try.func14, Try.ntmps14
    go_wp2_with fail
    go_ret2
    exact ⟨ret_pair (by rw [HG.out]) (by rw [HG.out]; rfl), rfl⟩
  · by_cases h2 : y / 32 = 6
    · have hF := HF.out
      rw [if_neg h1, if_pos h2] at hF
      have HG := Lib.hid hF
      have hi : ((y : Int) / 32 == 6) = true := by rw [beq_iff_eq]; omega
      clear hF h2
      go_enter Try.func14, Try.ntmps14
      go_wp2_with (first | (go_at_call 20; with_reducible refine hj2'.out.mono ?_; rintro e w' ⟨rfl, rfl⟩))
      go_ret2
      exact ⟨ret_pair (by rw [HG.out]) (by rw [HG.out]), rfl⟩
    · have hi : ((y : Int) / 32 == 6) = false := by rw [beq_eq_false_iff_ne]; omega
      by_cases h3 : y / 16 = 14
      · have hF := HF.out
        rw [if_neg h1, if_neg h2, if_pos h3] at hF
        have HG := Lib.hid hF
        have hi2 : ((y : Int) / 16 == 14) = true := by rw [beq_iff_eq]; omega
        clear hF h2 h3
        go_enter Try.func14, Try.ntmps14
        go_wp2_with (first | (go_at_call 20; with_reducible refine hj3'.out.mono ?_; rintro e w' ⟨rfl, rfl⟩))
        go_ret2
        exact ⟨ret_pair (by rw [HG.out]) (by rw [HG.out]), rfl⟩
      · have hF := HF.out
        rw [if_neg h1, if_neg h2, if_neg h3] at hF
        have HG := Lib.hid hF
        have hi2 : ((y : Int) / 16 == 14) = false := by rw [beq_eq_false_iff_ne]; omega
        clear hF h2 h3
        go_enter Try.func14, Try.ntmps14
        go_wp2_with fail
        go_ret2
        exact ⟨ret_pair (by rw [HG.out]; rfl) (by rw [HG.out]; rfl), rfl⟩
end Go.Proofs.Ytekpinicfgofgaa
