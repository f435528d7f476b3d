/- The contracts of strings.Cut at a space, and of ins.find and the reader's word and number. -/
import Derived.Test.YthnilohilbacpaaDoorIn2
import Derived.Deep.QuietTactic
import Derived.BigQuiet
namespace Go.Proofs.YthnilohilbacpaaDoor
open Go.ChangeShapes Go.WideShapes Go.ChangeAt Go.RowKit
set_option linter.unusedVariables false
attribute [local go_sem] eqGuard_errV_nil eqGuard_errV_iface eql_errV_nil neq_errV_nil eql_errV_form

theorem index_space : ∀ l : List UInt8, Lib.indexByte l 32 = if (wordL l).length < l.length then ((wordL l).length : Int) else -1
  | [] => by simp [Lib.indexByte, wordL]
  | c :: r => by
    have ih := index_space r
    by_cases hc : c = 32
    · subst hc; simp [Lib.indexByte, wordL]
    · have e : (wordL (c :: r)).length = (wordL r).length + 1 := by simp [wordL, hc]
      simp only [Lib.indexByte, e, List.length_cons, ih]
      by_cases h : (wordL r).length < r.length
      · simp [hc, h]
      · simp [hc, h]
theorem word_cut : ∀ l : List UInt8, (wordL l).length ≤ l.length ∧ l.take (wordL l).length = wordL l ∧ l.drop ((wordL l).length + 1) = restL l ∧ (¬ (wordL l).length < l.length → wordL l = l ∧ restL l = [])
  | [] => by simp [wordL, restL]
  | c :: r => by
    obtain ⟨h1, h2, h3, h4⟩ := word_cut r
    by_cases hc : c = 32
    · subst hc; simp [wordL, restL]
    · have e : wordL (c :: r) = c :: wordL r := by simp [wordL, hc]
      have e2 : restL (c :: r) = restL r := by simp [restL, hc]
      rw [e, e2]
      refine ⟨by simp; omega, by simp [h2], by simpa using h3, fun h => ?_⟩
      have := h4 (by simp at h; omega)
      rw [this.1, this.2]
      exact ⟨rfl, rfl⟩
theorem rest_len (l : List UInt8) : (restL l).length ≤ l.length := by
  obtain ⟨_, _, h, _⟩ := word_cut l
  rw [← h, List.length_drop]; omega
theorem word_len (l : List UInt8) : (wordL l).length ≤ l.length := (word_cut l).1

theorem ret_cut {a b a' b' : ByteArray} {c c' : Bool} (h1 : a = a') (h2 : b = b') (h3 : c = c') : Ending.returned (.tuple #[.string a, .string b, .bool c]) = .returned (.tuple #[.string a', .string b', .bool c']) := by rw [h1, h2, h3]
set_option maxHeartbeats 1000000 in
theorem innerCut_any (l : List UInt8) (w : World) (hs : l.length ≤ maxLen) : Calls Tryd.prog 78 #[.string (bs l), .string ⟨#[32]⟩] w
    fun e w' => e = .returned (.tuple #[.string (bs (wordL l)), .string (bs (restL l)), .bool (decide ((wordL l).length < l.length))]) ∧ ∃ k, w' = w.drewN k := by
  have HI := fun w => Tryd.stringslite_Index_one (bs l) 32 w
  rw [bs_list, index_space] at HI
  obtain ⟨h1, h2, h3, h4⟩ := word_cut l
  unfold maxLen at hs
  have hz : (bs l).size = l.length := rfl
  by_cases h : (wordL l).length < l.length
  · rw [if_pos h] at HI
    replace HI := Lib.hid HI
    have HD := Lib.hid (decide_eq_true h)
    have H2 := Lib.hid h2
    have H3 := Lib.hid h3
    generalize hn : (wordL l).length = n at *
    clear h2 h3 h4 hn
    go_enter Tryd.func78, Tryd.ntmps78
    go_wp2_with (first
      | (go_at_call 87; (with_reducible refine (HI.out _).mono ?_); rintro e w' ⟨rfl, rfl⟩))
    go_quiet (fail)
    go_wp2
    go_ret3
    exact ⟨ret_cut (by rw [← H2.out]; exact bs_eq (ext_take _ _)) (by rw [← H3.out]; exact bs_eq (ext_drop _ _)) HD.out.symm, _, rfl⟩
  · rw [if_neg h] at HI
    replace HI := Lib.hid HI
    obtain ⟨e1, e2⟩ := h4 h
    have HD := Lib.hid (decide_eq_false h)
    have H2 := Lib.hid e1
    have H3 := Lib.hid e2
    clear h1 h2 h3 h4 h e1 e2
    go_enter Tryd.func78, Tryd.ntmps78
    go_wp2_with (first
      | (go_at_call 87; (with_reducible refine (HI.out _).mono ?_); rintro e w' ⟨rfl, rfl⟩))
    go_ret3
    exact ⟨ret_cut (by rw [H2.out]) (by rw [H3.out]; rfl) HD.out.symm, 0, rfl⟩
theorem cut_any (l : List UInt8) (w : World) (hs : l.length ≤ maxLen) : Calls Tryd.prog 67 #[.string (bs l), .string ⟨#[32]⟩] w
    fun e w' => e = .returned (.tuple #[.string (bs (wordL l)), .string (bs (restL l)), .bool (decide ((wordL l).length < l.length))]) ∧ ∃ k, w' = w.drewN k := by
  have HC := Lib.hid (fun w => innerCut_any l w hs)
  clear hs
  go_enter Tryd.func67, Tryd.ntmps67
  go_wp2_with (first
    | (go_at_call 78; (with_reducible refine (HC.out _).mono ?_); rintro e w' ⟨rfl, k, rfl⟩))
  go_ret3
  exact ⟨rfl, _, rfl⟩

theorem find_none {l : List UInt8} (h : ∀ j, 0 < j → j < 29 → opW j ≠ l) : findN l = 0 := by
  unfold findN
  rw [List.find?_eq_none.2]
  · rfl
  · intro k hk
    have h29 : ∀ k ∈ (List.range 29).drop 1, 0 < k ∧ k < 29 := by decide
    obtain ⟨h1, h2⟩ := h29 k hk
    simpa using h k h1 h2
theorem opW_found : ∀ k, k < 29 → 0 < k → findN (opW k) = k := by decide
set_option maxHeartbeats 1000000 in
theorem find_any (l : List UInt8) (w : World) (T : Tab w) : Calls Tryd.prog 56 #[.string (bs l)] w fun e w' => e = .returned (.int .i64 (findN l : Int)) ∧ w = w' := by
  have HT := Lib.hid T
  clear T
  go_enter Tryd.func56, Tryd.ntmps56
  go_wp2
  go_loop [3] (fun i => ∃ k : Nat, 0 < k ∧ k ≤ 29 ∧ i = .int .i64 k ∧ Hid (∀ j, 0 < j → j < k → opW j ≠ l)) (fun i => 29 - (intOf i).toNat)
  case atStart => exact ⟨1, by decide, by decide, rfl, Lib.hid (fun j h1 h2 => by omega)⟩
  case round =>
    obtain ⟨k, h0, hk, rfl, HN⟩ := hrel
    by_cases hlt : k < 29
    · have hT := (HT.out k hlt).1
      by_cases he : opW k = l
      · have HF := Lib.hid (opW_found k hlt h0)
        subst he
        go_wp2
        go_ret
        exact ⟨by rw [HF.out]; rfl, rfl⟩
      · have hne : ((bs (opW k)).toList == (bs l).toList) = false := by rw [ByteArray.toList_eq, ByteArray.toList_eq, beq_eq_false_iff_ne]; exact he
        have HN2 : Hid (∀ j, 0 < j → j < k + 1 → opW j ≠ l) := Lib.hid (fun j h1 h2 => by
          rcases Nat.lt_or_ge j k with h3 | h3
          · exact HN.out j h1 h3
          · obtain rfl : j = k := by omega
            exact he)
        clear he
        go_wp2
        go_round
        case rel => exact ⟨k + 1, by omega, by omega, by go_num, HN2⟩
        case measure => first | (simp [intOf]; omega) | simp [intOf]
    · obtain rfl : k = 29 := by omega
      have HF := Lib.hid (find_none HN.out)
      go_wp2
      go_ret
      exact ⟨by rw [HF.out]; rfl, rfl⟩

set_option maxHeartbeats 1000000 in
theorem word_any2 (n : Nat) (r : List UInt8) (w : World) (hc : w.cell? ⟨n, 0, none⟩ = some (.string (bs r))) (hf : w.frozen? ⟨n, 0, none⟩ = false) (hs : r.length ≤ 140737488355328) :
    Calls Tryd.prog 57 #[.pointer (some ⟨n, 0, none⟩)] w fun e w' => e = .returned (.string (bs (wordL r))) ∧ ∃ k, Below w.heap.size ((w.drewN k).setCell ⟨n, 0, none⟩ (.string (bs (restL r)))) w' := by
  have HC := Lib.hid (fun w => cut_any r w (by unfold maxLen; omega))
  have HK := Lib.hid (fun w => clone_any (bs (wordL r)) w (by have := word_len r; rw [bs_size]; omega))
  clear hs
  go_enter Tryd.func57, Tryd.ntmps57
  go_wp2_with (first
    | (go_at_call 67; (with_reducible refine (HC.out _).mono ?_); rintro e w' ⟨rfl, k, rfl⟩)
    | (go_at_call 62; (with_reducible refine (HK.out _).mono ?_); rintro e w' ⟨rfl, hb⟩))
  go_ret
  exact ⟨rfl, k, hb.mono (by simp)⟩

/-- The library's two errors lie in their variables. -/
def Errs (w : World) : Prop := (∃ tp p, w.var? Tryd.prog "strconv.ErrSyntax" = some #[.iface tp p]) ∧ (∃ tp p, w.var? Tryd.prog "strconv.ErrRange" = some #[.iface tp p])
theorem Errs.below {w w' : World} (h : Errs w) (hb : Below w.heap.size w w') : Errs w' := by
  obtain ⟨⟨t, p, h1⟩, ⟨t2, p2, h2⟩⟩ := h
  exact ⟨⟨t, p, var_below h1 hb⟩, ⟨t2, p2, var_below h2 hb⟩⟩
/-- Atoi at every string: the number, and nothing below the heap's end changed. -/
theorem atoi_any (l : List UInt8) (w : World) (E : Errs w) (hs : l.length ≤ 140737488355328) : Calls Tryd.prog 68 #[.string (bs l)] w fun e w' => (∃ v, e = .returned (.tuple #[.int .i64 (numM l), v])) ∧ Below w.heap.size w w' := by
  obtain ⟨⟨t, p, h1⟩, ⟨t2, p2, h2⟩⟩ := E
  have hz : (bs l).size = l.length := rfl
  rcases h : Lib.atoiAll l with v | _ | _
  · refine (Tryd.strconv_Atoi_ok (bs l) (by omega) v h w).mono fun e w' ⟨he, hw⟩ => ⟨⟨.nilIface, by rw [he, numM, h]⟩, ?_⟩
    rcases hw with rfl | ⟨t, rfl⟩
    · exact Below.refl _ _
    · exact Lib.bytesWorld_below ..
  · exact (Tryd.strconv_Atoi_syntax_var (bs l) (by omega) h t p w h1).mono fun e w' ⟨N, he, _, _, hb⟩ => ⟨⟨.iface 114 (.pointer (some ⟨N, 0, none⟩)), he.trans (by rw [numM, h])⟩, hb⟩
  · exact (Tryd.strconv_Atoi_range_var (bs l) (by omega) h t2 p2 w h2).mono fun e w' ⟨N, he, _, _, hb⟩ => ⟨⟨.iface 114 (.pointer (some ⟨N, 0, none⟩)), he.trans (by rw [numM, h]; rfl)⟩, hb⟩
set_option maxHeartbeats 1000000 in
theorem number_any (n : Nat) (r : List UInt8) (w : World) (hc : w.cell? ⟨n, 0, none⟩ = some (.string (bs r))) (hf : w.frozen? ⟨n, 0, none⟩ = false) (hs : r.length ≤ 140737488355328)
    (E : ∀ w' k, Below w.heap.size ((w.drewN k).setCell ⟨n, 0, none⟩ (.string (bs (restL r)))) w' → Errs w') :
    Calls Tryd.prog 58 #[.pointer (some ⟨n, 0, none⟩)] w fun e w' => e = .returned (.int .i64 (numM (wordL r))) ∧ ∃ k, Below w.heap.size ((w.drewN k).setCell ⟨n, 0, none⟩ (.string (bs (restL r)))) w' := by
  have HW := Lib.hid (word_any2 n r w hc hf hs)
  have HA := Lib.hid (fun w E => atoi_any (wordL r) w E (Nat.le_trans (word_len r) hs))
  have HE := Lib.hid E
  clear hs hc hf E
  go_enter Tryd.func58, Tryd.ntmps58
  go_wp2_with (first
    | (go_at_call 57; (with_reducible refine HW.out.mono ?_); rintro e w1 ⟨rfl, k, hb⟩)
    | (go_at_call 68; (with_reducible refine (HA.out _ (HE.out _ _ hb)).mono ?_); rintro e w2 ⟨⟨v, rfl⟩, hb2⟩))
  go_ret
  exact ⟨rfl, k, hb.trans (hb2.mono (Nat.le_trans (by simp) hb.size))⟩
end Go.Proofs.YthnilohilbacpaaDoor
