/- class.checkFaces: the earlier elements in a map from text to bool that the call makes. -/
import Derived.Test.YtkabkpkfglngnaaDoorClR
import Derived.Test.YtkabkpkfglngnaaDoorClN
import Derived.Test.YtkabkpkfglngnaaDoorIn2
import Derived.Maps.OwnOps
import Derived.Maps.Views
namespace Go.Proofs.YtkabkpkfglngnaaDoor
open Go.ChangeShapes Go.WideShapes Go.ChangeAt Go.RowKit Go.Maps
set_option linter.unusedVariables false
attribute [local go_sem] eqGuard_errV_nil eqGuard_errV_iface eql_errV_nil neq_errV_nil eql_errV_form

/-! A look-up in a map whose elements are bools. -/
theorem plainElem_bool_inv {H : Type} {P : Program} {e : TypeId} (he : P.underlying e = some .bool) {v : Value} {z : DataW H × List MemPlace} (h : plainElem P e v = some z) : ∃ x, v = .bool x ∧ z = (.lit (.bool x), []) := by
  unfold plainElem at h
  rw [he] at h
  cases v <;> simp at h
  exact ⟨_, rfl, h.symm⟩
theorem lookup_bool {H : Type} {P : Program} {w : World} {k t e : TypeId} {b n : Nat} {D : DataW H} (h : w.ownsMap P k (plainElem P e) b n D) (K : Keyed P k) (ht : P.underlying t = some (.map k e)) (he : P.underlying e = some .bool)
    (hz : (zeroValue e).run P w = .ok (.bool false) w) {key : Value} {kl : Lit} (hkey : keyOf P k key = some kl) {r : Bool} (hat : D.atKey kl (.lit (.bool false)) = .lit (.bool r)) :
    (Instr.lookup t (.map (some b)) key false).run P w = .ok (.bool r) w := by
  obtain ⟨v, ps, hrun, hv⟩ := h.lookup K ht hz (plainElem_bool he false) hkey
  obtain ⟨x, rfl, hx⟩ := plainElem_bool_inv he hv
  have e1 := (Prod.mk.injEq .. ▸ hx).1
  rw [hat] at e1
  cases e1
  exact hrun
theorem wpList_lookup_bool {H : Type} {P : Program} (w : World) {ops : Array Oper} {rest : List Oper} {o : Oper} {a : Act} {Q : Exit → Act → World → Prop} (hg : o.guard = none) (m x : Operand) (t : TypeId) (hop : o.op = Op.lookup t m x false)
    (k e : TypeId) (K : Keyed P k) (ht : P.underlying t = some (.map k e)) (he : P.underlying e = some .bool) (hz : (zeroValue e).run P w = .ok (.bool false) w) (b n : Nat) (D : DataW H)
    (hm : a.eval m = .map (some b)) (hown : w.ownsMap P k (plainElem P e) b n D) (key : Value) (kl : Lit) (hx : a.eval x = key) (hkey : keyOf P k key = some kl) (r : Bool) (hat : D.atKey kl (.lit (.bool false)) = .lit (.bool r))
    (hK : wpList P ops Q rest (a.put o.dst (.bool r)) w) : wpList P ops Q (o :: rest) a w := by
  refine wpList_plain hg fun K' hK' => ?_
  have hrun := lookup_bool hown K ht he hz hkey hat
  unfold Oper.wp
  simp [execOp, hop, hm, hx, hrun, Result.andThen]
  exact hK' _ _ hK

/-- What a map of texts says: just the texts of pre are in it. -/
def Says (D : DataW Unit) (pre : List (List UInt8)) : Prop := IsMap D ∧ ∀ y : List UInt8, D.atKey (.string y) (.lit (.bool false)) = .lit (.bool (pre.any (· == y)))
theorem says_empty : Says (.map []) [] := ⟨isMap_empty, fun _ => rfl⟩
theorem says_put {D : DataW Unit} {pre : List (List UInt8)} (h : Says D pre) (x : List UInt8) : Says (D.put (.string x) (.lit (.bool true))) (pre ++ [x]) := by
  refine ⟨h.1.put _ _, fun y => ?_⟩
  by_cases e : y = x
  · subst e
    rw [atKey_put_same h.1 (show WideAt.IsKeyLit (.string y) from trivial)]
    simp
  · rw [atKey_put_other (by simpa using e), h.2 y, List.any_append]
    have : (x == y) = false := by rw [beq_eq_false_iff_ne]; exact fun e' => e e'.symm
    simp [this]
def SetRow (w : World) (b n : Nat) (pre : List (List UInt8)) : Prop := ∃ D : DataW Unit, w.ownsMap Tryd.prog 9 (plainElem Tryd.prog 4) b n D ∧ Says D pre
theorem str_keyed : Keyed Tryd.prog 9 := string_keyed Tryd.underlying9
theorem zero_bool (w : World) : (zeroValue 4).run Tryd.prog w = .ok (.bool false) w := by kernel_rfl

set_option maxRecDepth 20000 in
set_option maxHeartbeats 4000000 in
theorem faces_any (xs : List (List UInt8)) (A : Option Addr) (n c : Nat) (w : World) (R : StrRow w A n c xs) (hn : n ≤ 140737488351232) (hs : ∀ x ∈ xs, x.length ≤ 140737488351232) :
    Calls Tryd.prog 12 #[.slice A n c] w fun e w' => e = .returned (errV (firstAt faceF xs)) ∧ Below w.heap.size w w' := by
  have hmm := @run_makeMap Tryd.prog
  have hl : xs.length = n := R.1
  have HL := Lib.hid hl
  have HB0 := Lib.hid (al1 w (.map #[] 0))
  have HR := Lib.hid R
  have HS := Lib.hid hs
  have HM0 : Hid (SetRow (w.alloc (.map #[] 0)) w.heap.size 0 []) := Lib.hid ⟨_, World.ownsMap_made _ _ _ _, says_empty⟩
  clear hl R hs
  go_enter Tryd.func12, Tryd.ntmps12
  go_wp2
  generalize w.alloc (.map #[] 0) = v at *
  go_loopw [5, 9] (fun _ i wr => ∃ k : Nat, k ≤ n ∧ i = .int .i64 k ∧ Hid (CleanTo faceF xs k) ∧ Hid (SetRow wr w.heap.size k (xs.take k)) ∧ Hid (Below w.heap.size w wr)) (fun _ i _ => n - (intOf i).toNat)
  case atStart => exact ⟨0, Nat.zero_le _, rfl, Lib.hid (CleanTo.start _ _), HM0, HB0⟩
  case round =>
    obtain ⟨k, hk, rfl, HT, HM, HB⟩ := hrel
    by_cases hlt : k < n
    · obtain ⟨b1, o1, rfl, hb1, hx1⟩ := (StrRow.below HR.out HB.out).at_ hlt
      have hk1 : k < xs.length := by rw [HL.out]; exact hlt
      rw [Nat.mul_one] at hx1
      unfold StrAt at hx1
      have hys := HS.out _ (List.getElem_mem hk1)
      have hsz : (bs xs[k]).size ≤ maxLen := by rw [bs_size]; unfold maxLen; omega
      have HFa := Lib.hid (show faceF (xs.take k) xs[k] ≠ 0 → _ from fun h => HT.out.fault hk1 h)
      have HNx := Lib.hid (show faceF (xs.take k) xs[k] = 0 → _ from fun h => HT.out.next hk1 h)
      have hkey : keyOf Tryd.prog 9 (.string (bs xs[k])) = some (.string xs[k]) := WideMaps.keyOf_string_mk Tryd.underlying9 (by rw [bs_size]; unfold maxLen; omega)
      have htk := List.take_succ_eq_append_getElem hk1
      obtain ⟨D, hown, hsay⟩ := HM.out
      have hat := hsay.2 xs[k]
      have HSay := Lib.hid (htk ▸ says_put hsay xs[k])
      clear hsay htk
      generalize xs.take k = pre at *
      generalize xs[k] = y at *
      cases hny : nameB y with
      | false =>
        have HV := Lib.hid (HFa.out (by rw [faceF_name hny]; decide))
        rw [faceF_name hny] at HV
        have HNy := Lib.hid (fun w => check_no (bs y) w hny hsz)
        clear HFa HNx hny hown hkey hat
        go_wp2_with (first
          | (go_at_call 11; (with_reducible refine (HNy.out _).mono ?_); rintro e w2 ⟨rfl, rfl⟩))
        go_ret
        exact ⟨ret_err (by rw [HV.out]; rfl), HB.out⟩
      | true =>
        have HNy := Lib.hid (fun w => check_yes (bs y) w hny hsz)
        have HO := Lib.hid hown
        have HK := Lib.hid hkey
        cases hin : pre.any (· == y) with
        | true =>
          have HV := Lib.hid (HFa.out (by rw [faceF_twice hny hin]; decide))
          rw [faceF_twice hny hin] at HV
          rw [hin] at hat
          have HA := Lib.hid hat
          clear HFa HNx hny hin hat hown hkey
          go_wp2_with (first
            | (go_at_call 11; (with_reducible refine (HNy.out _).mono ?_); rintro e w2 ⟨rfl, rfl⟩)
            | (at_lookup; refine wpList_lookup_bool _ rfl _ _ 51 rfl 9 4 str_keyed Tryd.underlying51 Tryd.underlying4 (zero_bool _) _ _ D rfl HO.out _ _ rfl HK.out _ HA.out ?_))
          go_ret
          exact ⟨ret_err (by rw [HV.out]; rfl), HB.out⟩
        | false =>
          have HN2 := Lib.hid (HNx.out (faceF_none hny hin))
          rw [hin] at hat
          have HA := Lib.hid hat
          clear HFa HNx hny hin hat hown hkey
          go_wp2_with (first
            | (go_at_call 11; (with_reducible refine (HNy.out _).mono ?_); rintro e w2 ⟨rfl, rfl⟩)
            | (at_lookup; refine wpList_lookup_bool _ rfl _ _ 51 rfl 9 4 str_keyed Tryd.underlying51 Tryd.underlying4 (zero_bool _) _ _ D rfl HO.out _ _ rfl HK.out _ HA.out ?_)
            | (at_mapUpdate; refine wpList_mapUpdate_own _ rfl _ _ _ 51 rfl 9 4 str_keyed Tryd.underlying51 _ _ _ D rfl HO.out (by unfold maxLen; omega) _ _ _ rfl rfl HK.out _ [] (plainElem_bool Tryd.underlying4 true) ?_
               intro w1 hown1 hgrow1
               have HO1 := Lib.hid hown1
               have HB1 := Lib.hid (HB.out.grown hgrow1 HB.out.size (fun j hj => by cases hj; exact Nat.le_refl _))
               clear hown1 hgrow1))
          go_roundw
          case rel => exact ⟨k + 1, by omega, by go_num, HN2, Lib.hid ⟨_, HO1.out, HSay.out⟩, HB1⟩
          case measure => first | (simp [intOf]; omega) | simp [intOf]
    · obtain rfl : k = n := by omega
      have HV := Lib.hid (HT.out.all HL.out)
      go_wp2
      go_ret
      exact ⟨ret_err (by rw [HV.out]; rfl), HB.out⟩
end Go.Proofs.YtkabkpkfglngnaaDoor
