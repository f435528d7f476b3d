/- class.checkFaces: the earlier elements in a map from text to bool that the call makes. class.checkFields: a search among the earlier fields by a closure. The search of class.checkMethods: a closure, IndexFunc, ContainsFunc. class.localsNeeded, class.checkHandlers. class.checkBody. class.checkMethods. class.Check returns the first fault of every class. -/
import Derived.Test.YtkolpbjpgobkcaaGreatDoorGH
import Derived.Test.YtkolpbjpgobkcaaGreatDoorGC
import Derived.Test.YtkolpbjpgobkcaaGreatDoorIn2
import Derived.Maps.OwnOps
import Derived.Maps.Views
import Derived.Test.YtkolpbjpgobkcaaGreatDoorGE
import Derived.Test.YtkolpbjpgobkcaaGreatDoorGA
import Derived.Test.YtkolpbjpgobkcaaGreatDoorClF
import Derived.Deep.RegionHeld
import Derived.Laws.Cover1
namespace Go.Proofs.YtkolpbjpgobkcaaGreatDoor
open Go.ChangeShapes Go.WideShapes Go.ChangeAt Go.RowKit Go.Maps
set_option linter.unusedVariables false
attribute [local go_sem] eqGuard_errV_nil eqGuard_errV_iface eql_errV_nil neq_errV_nil eql_errV_form

/-! A look-up in a map whose elements are bools. -/
theorem plainElem_bool_inv {H : Type} {P : Program} {e : TypeId} (he : P.underlying e = some .bool) {v : Value} {z : DataW H × List MemPlace} (h : plainElem P e v = some z) : ∃ x, v = .bool x ∧ z = (.lit (.bool x), []) := by
  unfold plainElem at h
  rw [he] at h
  cases v <;> simp at h
  exact ⟨_, rfl, h.symm⟩
theorem lookup_bool {H : Type} {P : Program} {w : World} {k t e : TypeId} {b n : Nat} {D : DataW H} (h : w.ownsMap P k (plainElem P e) b n D) (K : Keyed P k) (ht : P.underlying t = some (.map k e)) (he : P.underlying e = some .bool)
    (hz : (zeroValue e).run P w = .ok (.bool false) w) {key : Value} {kl : Lit} (hkey : keyOf P k key = some kl) {r : Bool} (hat : D.atKey kl (.lit (.bool false)) = .lit (.bool r)) :
    (Instr.lookup t (.map (some b)) key false).run P w = .ok (.bool r) w := by
  obtain ⟨v, ps, hrun, hv⟩ := h.lookup K ht hz (plainElem_bool he false) hkey
  obtain ⟨x, rfl, hx⟩ := plainElem_bool_inv he hv
  have e1 := (Prod.mk.injEq .. ▸ hx).1
  rw [hat] at e1
  cases e1
  exact hrun
theorem wpList_lookup_bool {H : Type} {P : Program} (w : World) {ops : Array Oper} {rest : List Oper} {o : Oper} {a : Act} {Q : Exit → Act → World → Prop} (hg : o.guard = none) (m x : Operand) (t : TypeId) (hop : o.op = Op.lookup t m x false)
    (k e : TypeId) (K : Keyed P k) (ht : P.underlying t = some (.map k e)) (he : P.underlying e = some .bool) (hz : (zeroValue e).run P w = .ok (.bool false) w) (b n : Nat) (D : DataW H)
    (hm : a.eval m = .map (some b)) (hown : w.ownsMap P k (plainElem P e) b n D) (key : Value) (kl : Lit) (hx : a.eval x = key) (hkey : keyOf P k key = some kl) (r : Bool) (hat : D.atKey kl (.lit (.bool false)) = .lit (.bool r))
    (hK : wpList P ops Q rest (a.put o.dst (.bool r)) w) : wpList P ops Q (o :: rest) a w := by
  refine wpList_plain hg fun K' hK' => ?_
  have hrun := lookup_bool hown K ht he hz hkey hat
  unfold Oper.wp
  simp [execOp, hop, hm, hx, hrun, Result.andThen]
  exact hK' _ _ hK

/-- What a map of texts says: just the texts of pre are in it. -/
def Says (D : DataW Unit) (pre : List (List UInt8)) : Prop := IsMap D ∧ ∀ y : List UInt8, D.atKey (.string y) (.lit (.bool false)) = .lit (.bool (pre.any (· == y)))
theorem says_empty : Says (.map []) [] := ⟨isMap_empty, fun _ => rfl⟩
theorem says_put {D : DataW Unit} {pre : List (List UInt8)} (h : Says D pre) (x : List UInt8) : Says (D.put (.string x) (.lit (.bool true))) (pre ++ [x]) := by
  refine ⟨h.1.put _ _, fun y => ?_⟩
  by_cases e : y = x
  · subst e
    rw [atKey_put_same h.1 (show WideAt.IsKeyLit (.string y) from trivial)]
    simp
  · rw [atKey_put_other (by simpa using e), h.2 y, List.any_append]
    have : (x == y) = false := by rw [beq_eq_false_iff_ne]; exact fun e' => e e'.symm
    simp [this]
def SetRow (w : World) (b n : Nat) (pre : List (List UInt8)) : Prop := ∃ D : DataW Unit, w.ownsMap Tryz.prog 9 (plainElem Tryz.prog 4) b n D ∧ Says D pre
theorem str_keyed : Keyed Tryz.prog 9 := string_keyed Tryz.underlying9
theorem zero_bool (w : World) : (zeroValue 4).run Tryz.prog w = .ok (.bool false) w := by kernel_rfl

set_option maxRecDepth 20000 in
set_option maxHeartbeats 4000000 in
theorem faces_any (xs : List (List UInt8)) (A : Option Addr) (n c : Nat) (w : World) (R : StrRow w A n c xs) (hn : n ≤ 140737488351232) (hs : ∀ x ∈ xs, x.length ≤ 140737488351232) :
    Calls Tryz.prog 71 #[.slice A n c] w fun e w' => e = .returned (errV (firstAt faceF xs)) ∧ Below w.heap.size w w' := by
  have hmm := @run_makeMap Tryz.prog
  have hl : xs.length = n := R.1
  have HL := Lib.hid hl
  have HB0 := Lib.hid (al1 w (.map #[] 0))
  have HR := Lib.hid R
  have HS := Lib.hid hs
  have HM0 : Hid (SetRow (w.alloc (.map #[] 0)) w.heap.size 0 []) := Lib.hid ⟨_, World.ownsMap_made _ _ _ _, says_empty⟩
  clear hl R hs
  go_enter Tryz.func71, Tryz.ntmps71
  go_wp2
  generalize w.alloc (.map #[] 0) = v at *
  go_loopw [5, 9] (fun _ i wr => ∃ k : Nat, k ≤ n ∧ i = .int .i64 k ∧ Hid (CleanTo faceF xs k) ∧ Hid (SetRow wr w.heap.size k (xs.take k)) ∧ Hid (Below w.heap.size w wr)) (fun _ i _ => n - (intOf i).toNat)
  case atStart => exact ⟨0, Nat.zero_le _, rfl, Lib.hid (CleanTo.start _ _), HM0, HB0⟩
  case round =>
    obtain ⟨k, hk, rfl, HT, HM, HB⟩ := hrel
    by_cases hlt : k < n
    · obtain ⟨b1, o1, rfl, hb1, hx1⟩ := (StrRow.below HR.out HB.out).at_ hlt
      have hk1 : k < xs.length := by rw [HL.out]; exact hlt
      rw [Nat.mul_one] at hx1
      unfold StrAt at hx1
      have hys := HS.out _ (List.getElem_mem hk1)
      have hsz : (bs xs[k]).size ≤ maxLen := by rw [bs_size]; unfold maxLen; omega
      have HFa := Lib.hid (show faceF (xs.take k) xs[k] ≠ 0 → _ from fun h => HT.out.fault hk1 h)
      have HNx := Lib.hid (show faceF (xs.take k) xs[k] = 0 → _ from fun h => HT.out.next hk1 h)
      have hkey : keyOf Tryz.prog 9 (.string (bs xs[k])) = some (.string xs[k]) := WideMaps.keyOf_string_mk Tryz.underlying9 (by rw [bs_size]; unfold maxLen; omega)
      have htk := List.take_succ_eq_append_getElem hk1
      obtain ⟨D, hown, hsay⟩ := HM.out
      have hat := hsay.2 xs[k]
      have HSay := Lib.hid (htk ▸ says_put hsay xs[k])
      clear hsay htk
      generalize xs.take k = pre at *
      generalize xs[k] = y at *
      cases hny : nameB y with
      | false =>
        have HV := Lib.hid (HFa.out (by rw [faceF_name hny]; decide))
        rw [faceF_name hny] at HV
        have HNy := Lib.hid (fun w => check_no (bs y) w hny hsz)
        clear HFa HNx hny hown hkey hat
        go_wp2_with (first
          | (go_at_call 70; (with_reducible refine (HNy.out _).mono ?_); rintro e w2 ⟨rfl, rfl⟩))
        go_ret
        exact ⟨ret_err (by rw [HV.out]; rfl), HB.out⟩
      | true =>
        have HNy := Lib.hid (fun w => check_yes (bs y) w hny hsz)
        have HO := Lib.hid hown
        have HK := Lib.hid hkey
        cases hin : pre.any (· == y) with
        | true =>
          have HV := Lib.hid (HFa.out (by rw [faceF_twice hny hin]; decide))
          rw [faceF_twice hny hin] at HV
          rw [hin] at hat
          have HA := Lib.hid hat
          clear HFa HNx hny hin hat hown hkey
          go_wp2_with (first
            | (go_at_call 70; (with_reducible refine (HNy.out _).mono ?_); rintro e w2 ⟨rfl, rfl⟩)
            | (at_lookup; refine wpList_lookup_bool _ rfl _ _ 86 rfl 9 4 str_keyed Tryz.underlying86 Tryz.underlying4 (zero_bool _) _ _ D rfl HO.out _ _ rfl HK.out _ HA.out ?_))
          go_ret
          exact ⟨ret_err (by rw [HV.out]; rfl), HB.out⟩
        | false =>
          have HN2 := Lib.hid (HNx.out (faceF_none hny hin))
          rw [hin] at hat
          have HA := Lib.hid hat
          clear HFa HNx hny hin hat hown hkey
          go_wp2_with (first
            | (go_at_call 70; (with_reducible refine (HNy.out _).mono ?_); rintro e w2 ⟨rfl, rfl⟩)
            | (at_lookup; refine wpList_lookup_bool _ rfl _ _ 86 rfl 9 4 str_keyed Tryz.underlying86 Tryz.underlying4 (zero_bool _) _ _ D rfl HO.out _ _ rfl HK.out _ HA.out ?_)
            | (at_mapUpdate; refine wpList_mapUpdate_own _ rfl _ _ _ 86 rfl 9 4 str_keyed Tryz.underlying86 _ _ _ D rfl HO.out (by unfold maxLen; omega) _ _ _ rfl rfl HK.out _ [] (plainElem_bool Tryz.underlying4 true) ?_
               intro w1 hown1 hgrow1
               have HO1 := Lib.hid hown1
               have HB1 := Lib.hid (HB.out.grown hgrow1 HB.out.size (fun j hj => by cases hj; exact Nat.le_refl _))
               clear hown1 hgrow1))
          go_roundw
          case rel => exact ⟨k + 1, by omega, by go_num, HN2, Lib.hid ⟨_, HO1.out, HSay.out⟩, HB1⟩
          case measure => first | (simp [intOf]; omega) | simp [intOf]
    · obtain rfl : k = n := by omega
      have HV := Lib.hid (HT.out.all HL.out)
      go_wp2
      go_ret
      exact ⟨ret_err (by rw [HV.out]; rfl), HB.out⟩
end Go.Proofs.YtkolpbjpgobkcaaGreatDoor
namespace Go.Proofs.YtkolpbjpgobkcaaGreatDoor
open Go.ChangeShapes Go.WideShapes Go.ChangeAt Go.RowKit
set_option linter.unusedVariables false
attribute [local go_sem] eqGuard_errV_nil eqGuard_errV_iface eql_errV_nil neq_errV_nil eql_errV_form

set_option maxHeartbeats 1000000 in
theorem fsame_any (x y : FieldD) (b : Nat) (w : World) (h : w.cell? ⟨b, 0, none⟩ = some (.string (bs y.nm))) (hb : b < w.heap.size) :
    Calls Tryz.prog 91 #[.agg #[.string (bs x.nm), .string (bs x.ty)], .pointer (some ⟨b, 0, none⟩)] w fun e w' => e = .returned (.bool (x.nm == y.nm)) ∧ Below w.heap.size w w' := by
  by_cases he : x.nm = y.nm
  · have e : (x.nm == y.nm) = true := by simpa using he
    rw [e]
    rw [← he] at h
    clear e he
    go_enter Tryz.func91, Tryz.ntmps91
    go_wp2
    go_ret
    exact ⟨rfl, al1 _ _⟩
  · have e : (x.nm == y.nm) = false := by simpa using he
    rw [e]
    have hne := str_ne he
    clear e he
    go_enter Tryz.func91, Tryz.ntmps91
    go_wp2
    go_ret
    exact ⟨rfl, al1 _ _⟩

set_option maxRecDepth 20000 in
set_option maxHeartbeats 2000000 in
theorem findex_any (xs : List FieldD) (y : FieldD) (b : Nat) (A : Option Addr) (n c : Nat) (w : World) (R : FieldRow w A n c xs) (hn : n ≤ 140737488351232) (h : w.cell? ⟨b, 0, none⟩ = some (.string (bs y.nm))) (hb : b < w.heap.size) :
    Calls Tryz.prog 104 #[.slice A n c, .func (.func 91) #[] #[.pointer (some ⟨b, 0, none⟩)]] w
      fun e w' => ∃ k : Int, e = .returned (.int .i64 k) ∧ (xs.any (fun x => x.nm == y.nm) = true → ∃ m : Nat, k = m) ∧ (xs.any (fun x => x.nm == y.nm) = false → k = -1) ∧ Below w.heap.size w w' := by
  have hl : xs.length = n := R.1
  have HL := Lib.hid hl
  have HR := Lib.hid R
  have HC := Lib.hid (fun (W : World) (x : FieldD) (hB : Below w.heap.size w W) => fsame_any x y b W ((hB.cell (p := ⟨b, 0, none⟩) hb).trans h) (Nat.lt_of_lt_of_le hb hB.size))
  clear hl R h hb
  go_enter Tryz.func104, Tryz.ntmps104
  go_wp2
  go_loopw [5, 8] (fun _ i wr => ∃ k : Nat, k ≤ n ∧ i = .int .i64 k ∧ Hid ((xs.take k).any (fun x => x.nm == y.nm) = false) ∧ Hid (Below w.heap.size w wr)) (fun _ i _ => n - (intOf i).toNat)
  case atStart => exact ⟨0, Nat.zero_le _, rfl, Lib.hid rfl, Lib.hid (Below.refl _ _)⟩
  case round =>
    obtain ⟨k, hk, rfl, HT, HB⟩ := hrel
    by_cases hlt : k < n
    · obtain ⟨b1, o1, rfl, hb1, hx1⟩ := (FieldRow.below HR.out HB.out).at_ hlt
      have hk1 : k < xs.length := by rw [HL.out]; exact hlt
      have HX := fun hB => HC.out wr xs[k] hB
      have HTN := Lib.hid (show (xs[k].nm == y.nm) = false → _ from fun h => any_take (p := fun x => x.nm == y.nm) hk1 HT.out h)
      have HTA := Lib.hid (show (xs[k].nm == y.nm) = true → _ from fun h => any_at (p := fun x => x.nm == y.nm) hk1 h)
      generalize xs[k] = x at *
      obtain ⟨c0, c1⟩ := hx1
      cases he : (x.nm == y.nm) with
      | true =>
        rw [he] at HX
        replace HX := Lib.hid HX
        have HA := Lib.hid (HTA.out he)
        clear HTN HTA he
        go_wp2_with (first
          | (go_at_call 91; (with_reducible refine (HX.out HB.out).mono ?_); rintro e w1 ⟨rfl, hb⟩
             have HB1 := Lib.hid (bnext HB.out hb)
             clear hb))
        go_ret
        exact ⟨_, rfl, fun _ => ⟨k, rfl⟩, fun h => absurd (HA.out.symm.trans h) (by simp), HB1.out⟩
      | false =>
        rw [he] at HX
        replace HX := Lib.hid HX
        have HA := Lib.hid (HTN.out he)
        clear HTN HTA he
        go_wp2_with (first
          | (go_at_call 91; (with_reducible refine (HX.out HB.out).mono ?_); rintro e w1 ⟨rfl, hb⟩
             have HB1 := Lib.hid (bnext HB.out hb)
             clear hb))
        go_roundw
        case rel => exact ⟨k + 1, by omega, by go_num, HA, HB1⟩
        case measure => first | (simp [intOf]; omega) | simp [intOf]
    · obtain rfl : k = n := by omega
      have h := HT.out
      rw [List.take_of_length_le (by rw [HL.out]; exact Nat.le_refl _)] at h
      replace h := Lib.hid h
      go_wp2
      go_ret
      exact ⟨_, rfl, fun h' => absurd (h.out.symm.trans h') (by simp), fun _ => rfl, HB.out⟩
set_option maxHeartbeats 1000000 in
theorem fhas_any (xs : List FieldD) (y : FieldD) (b : Nat) (A : Option Addr) (n c : Nat) (w : World) (R : FieldRow w A n c xs) (hn : n ≤ 140737488351232) (h : w.cell? ⟨b, 0, none⟩ = some (.string (bs y.nm))) (hb : b < w.heap.size) :
    Calls Tryz.prog 92 #[.slice A n c, .func (.func 91) #[] #[.pointer (some ⟨b, 0, none⟩)]] w
      fun e w' => e = .returned (.bool (xs.any (fun x => x.nm == y.nm))) ∧ Below w.heap.size w w' := by
  have H := Lib.hid (findex_any xs y b A n c w R hn h hb)
  clear R h hb
  generalize xs.any (fun x => x.nm == y.nm) = q at *
  cases q with
  | true =>
    go_enter Tryz.func92, Tryz.ntmps92
    go_wp2_with (first
      | (go_at_call 104; (with_reducible refine H.out.mono ?_); rintro e w1 ⟨k, rfl, h1, _, hb⟩
         obtain ⟨m, rfl⟩ := h1 rfl
         have HB1 := Lib.hid hb
         clear hb h1))
    go_ret
    exact ⟨ret_bool (by simp), HB1.out⟩
  | false =>
    go_enter Tryz.func92, Tryz.ntmps92
    go_wp2_with (first
      | (go_at_call 104; (with_reducible refine H.out.mono ?_); rintro e w1 ⟨k, rfl, _, h2, hb⟩
         obtain rfl := h2 rfl
         have HB1 := Lib.hid hb
         clear hb h2))
    go_ret
    exact ⟨ret_bool (by simp), HB1.out⟩

theorem size_field (w : World) : (Go.sizeOf 27).run Tryz.prog w = .ok 2 w := by kernel_rfl
theorem pre_field (b o n c h : Nat) (hc : h ≤ c) (W : World) : (Instr.sliceAt 48 (.slice (some ⟨b, o, none⟩) n c) none (some (.int .i64 (h : Int))) none).run Tryz.prog W = .ok (.slice (some ⟨b, o, none⟩) h c) W := by
  have e : Tryz.prog.underlying 48 = some (.slice (Tryz.prog.elem 48)) := by kernel_rfl
  have e2 : Tryz.prog.elem 48 = 27 := by kernel_rfl
  rw [run_sliceAt_slice W _ _ _ _ _ e, run_slice_h W _ _ n c e .i64 _ (by omega) (by omega), e2, size_field]
  show Result.ok (sliced (some ⟨b, o, none⟩) 0 h c 2) W = _
  rw [sliced_pre]
theorem dcheck_yes (s : List UInt8) (w : World) (h : isTypeB s = true) (hs : (bs s).size ≤ maxLen) : Calls Tryz.prog 90 #[.string (bs s)] w fun e w' => e = .returned (errV 0) ∧ w = w' :=
  (dcheck_any (bs s) w hs).mono fun _ _ ⟨h1, h2⟩ => ⟨by rw [h1, bs_list, typeF_yes h], h2⟩
theorem dcheck_no (s : List UInt8) (w : World) (h : isTypeB s = false) (hs : (bs s).size ≤ maxLen) : Calls Tryz.prog 90 #[.string (bs s)] w fun e w' => e = .returned (errV 1) ∧ w = w' :=
  (dcheck_any (bs s) w hs).mono fun _ _ ⟨h1, h2⟩ => ⟨by rw [h1, bs_list, typeF_no h], h2⟩
set_option maxRecDepth 20000 in
set_option maxHeartbeats 4000000 in
theorem fields_any (xs : List FieldD) (A : Option Addr) (n c : Nat) (w : World) (R : FieldRow w A n c xs) (hn : n ≤ 140737488351232) (hs : ∀ x ∈ xs, x.nm.length ≤ 140737488351232 ∧ x.ty.length ≤ 140737488351232) :
    Calls Tryz.prog 72 #[.slice A n c] w fun e w' => e = .returned (errV (firstAt fieldF xs)) ∧ Below w.heap.size w w' := by
  have hl : xs.length = n := R.1
  have HL := Lib.hid hl
  have HR := Lib.hid R
  have HS := Lib.hid hs
  clear hl R hs
  go_enter Tryz.func72, Tryz.ntmps72
  go_wp2
  go_loopw [3, 4, 5, 8] (fun _ _ _ i wr => ∃ k : Nat, k ≤ n ∧ i = .int .i64 k ∧ Hid (CleanTo fieldF xs k) ∧ Hid (Below w.heap.size w wr)) (fun _ _ _ i _ => n - (intOf i).toNat)
  case atStart => exact ⟨0, Nat.zero_le _, rfl, Lib.hid (CleanTo.start _ _), Lib.hid (Below.refl _ _)⟩
  case round =>
    obtain ⟨k, hk, rfl, HT, HB⟩ := hrel
    by_cases hlt : k < n
    · obtain ⟨b1, o1, rfl, hb1, hx1⟩ := (FieldRow.below HR.out HB.out).at_ hlt
      have hk1 : k < xs.length := by rw [HL.out]; exact hlt
      have hys := HS.out _ (List.getElem_mem hk1)
      have hs1 : (bs xs[k].nm).size ≤ maxLen := by rw [bs_size]; have := hys.1; unfold maxLen; omega
      have hs2 : (bs xs[k].ty).size ≤ maxLen := by rw [bs_size]; have := hys.2; unfold maxLen; omega
      have HFa := Lib.hid (show fieldF (xs.take k) xs[k] ≠ 0 → _ from fun h => HT.out.fault hk1 h)
      have HNx := Lib.hid (show fieldF (xs.take k) xs[k] = 0 → _ from fun h => HT.out.next hk1 h)
      have hcut := fun W => pre_field b1 o1 n c k (Nat.le_trans hk HR.out.2.1) W
      have HHas := fun (W : World) (hB : Below w.heap.size w W) (h : W.cell? ⟨wr.heap.size, 0, none⟩ = some (.string (bs xs[k].nm))) (hb : wr.heap.size < W.heap.size) => fhas_any (xs.take k) xs[k] wr.heap.size (some ⟨b1, o1, none⟩) k c W (FieldRow.below (FieldRow.take HR.out hk) hB) (by omega) h hb
      generalize xs.take k = pre at *
      generalize xs[k] = y at *
      obtain ⟨c0, c1⟩ := hx1
      have HBox := Lib.hid (World.cell?_alloc_mark wr #[.string (bs y.nm), .string (bs y.ty)] 27 (0, 0) 0)
      cases hny : nameB y.nm with
      | false =>
        have HV := Lib.hid (HFa.out (by rw [fieldF_bad (by rw [hny]; rfl)]; decide))
        rw [fieldF_bad (by rw [hny]; rfl)] at HV
        have HNy := Lib.hid (fun w => check_no (bs y.nm) w hny hs1)
        clear HFa HNx hny HHas hcut
        go_wp2_with (first
          | (go_at_call 70; (with_reducible refine (HNy.out _).mono ?_); rintro e w2 ⟨rfl, rfl⟩))
        go_ret
        exact ⟨ret_err (by rw [HV.out]; rfl), bnext HB.out (al1 _ _)⟩
      | true =>
        have HNy := Lib.hid (fun w => check_yes (bs y.nm) w hny hs1)
        cases hty : isTypeB y.ty with
        | false =>
          have HV := Lib.hid (HFa.out (by rw [fieldF_bad (by rw [hny, hty]; rfl)]; decide))
          rw [fieldF_bad (by rw [hny, hty]; rfl)] at HV
          have HD := Lib.hid (fun w => dcheck_no y.ty w hty hs2)
          clear HFa HNx hny hty HHas hcut
          go_wp2_with (first
            | (go_at_call 70; (with_reducible refine (HNy.out _).mono ?_); rintro e w2 ⟨rfl, rfl⟩)
            | (go_at_call 90; (with_reducible refine (HD.out _).mono ?_); rintro e w2 ⟨rfl, rfl⟩))
          go_ret
          exact ⟨ret_err (by rw [HV.out]; rfl), bnext HB.out (al1 _ _)⟩
        | true =>
          have HD := Lib.hid (fun w => dcheck_yes y.ty w hty hs2)
          cases hin : pre.any (fun x => x.nm == y.nm) with
          | true =>
            have HV := Lib.hid (HFa.out (by rw [fieldF_twice (by rw [hny, hty]; rfl) hin]; decide))
            rw [fieldF_twice (by rw [hny, hty]; rfl) hin] at HV
            rw [hin] at HHas
            replace HHas := Lib.hid HHas
            clear HFa HNx hny hty hin
            go_wp2_with (first
              | (go_at_call 70; (with_reducible refine (HNy.out _).mono ?_); rintro e w2 ⟨rfl, rfl⟩)
              | (go_at_call 90; (with_reducible refine (HD.out _).mono ?_); rintro e w2 ⟨rfl, rfl⟩)
              | (go_at_call 92; (with_reducible refine (HHas.out _ (bnext HB.out (al1 _ _)) HBox.out (by simp)).mono ?_); rintro e w2 ⟨rfl, hb⟩
                 have HB1 := Lib.hid (bnext (bnext HB.out (al1 _ _)) hb)
                 clear hb))
            go_ret
            exact ⟨ret_err (by rw [HV.out]; rfl), HB1.out⟩
          | false =>
            have HN2 := Lib.hid (HNx.out (fieldF_none (by rw [hny, hty]; rfl) hin))
            rw [hin] at HHas
            replace HHas := Lib.hid HHas
            clear HFa HNx hny hty hin
            go_wp2_with (first
              | (go_at_call 70; (with_reducible refine (HNy.out _).mono ?_); rintro e w2 ⟨rfl, rfl⟩)
              | (go_at_call 90; (with_reducible refine (HD.out _).mono ?_); rintro e w2 ⟨rfl, rfl⟩)
              | (go_at_call 92; (with_reducible refine (HHas.out _ (bnext HB.out (al1 _ _)) HBox.out (by simp)).mono ?_); rintro e w2 ⟨rfl, hb⟩
                 have HB1 := Lib.hid (bnext (bnext HB.out (al1 _ _)) hb)
                 clear hb))
            go_roundw
            case rel => exact ⟨k + 1, by omega, by go_num, HN2, HB1⟩
            case measure => first | (simp [intOf]; omega) | simp [intOf]
    · obtain rfl : k = n := by omega
      have HV := Lib.hid (HT.out.all HL.out)
      go_wp2
      go_ret
      exact ⟨ret_err (by rw [HV.out]; rfl), HB.out⟩
end Go.Proofs.YtkolpbjpgobkcaaGreatDoor
namespace Go.Proofs.YtkolpbjpgobkcaaGreatDoor
open Go.ChangeShapes Go.WideShapes Go.ChangeAt Go.RowKit
set_option linter.unusedVariables false
attribute [local go_sem] eqGuard_errV_nil eqGuard_errV_iface eql_errV_nil neq_errV_nil eql_errV_form

/-- Do two methods have the same name and type? -/
def twinB (y x : MethD) : Bool := x.nm == y.nm && x.ty == y.ty
set_option maxHeartbeats 2000000 in
theorem msame_any (x y : MethD) (A : Option Addr) (i j : Nat) (B : Option Addr) (k l : Nat) (b : Nat) (w : World) (h : w.cell? ⟨b, 0, none⟩ = some (.string (bs y.nm))) (h' : w.cell? ⟨b, 1, none⟩ = some (.string (bs y.ty))) (hb : b < w.heap.size) :
    Calls Tryz.prog 94 #[methV x A i j B k l, .pointer (some ⟨b, 0, none⟩)] w fun e w' => e = .returned (.bool (twinB y x)) ∧ Below w.heap.size w w' := by
  unfold methV
  by_cases he : x.nm = y.nm
  · by_cases hf : x.ty = y.ty
    · have e : twinB y x = true := by simp [twinB, he, hf]
      rw [e]
      rw [← he] at h
      rw [← hf] at h'
      clear e he hf
      go_enter Tryz.func94, Tryz.ntmps94
      go_wp2
      go_ret
      exact ⟨rfl, al1 _ _⟩
    · have e : twinB y x = false := by simp [twinB, hf]
      rw [e]
      rw [← he] at h
      have hne := str_ne hf
      clear e he hf
      go_enter Tryz.func94, Tryz.ntmps94
      go_wp2
      go_ret
      exact ⟨rfl, al1 _ _⟩
  · have e : twinB y x = false := by simp [twinB, he]
    rw [e]
    have hne := str_ne he
    clear e he
    go_enter Tryz.func94, Tryz.ntmps94
    go_wp2
    go_ret
    exact ⟨rfl, al1 _ _⟩

set_option maxRecDepth 20000 in
set_option maxHeartbeats 2000000 in
theorem mindex_any (xs : List MethD) (y : MethD) (b : Nat) (A : Option Addr) (n c : Nat) (w : World) (R : MethRow w A n c xs) (hn : n ≤ 140737488351232) (h : w.cell? ⟨b, 0, none⟩ = some (.string (bs y.nm))) (h' : w.cell? ⟨b, 1, none⟩ = some (.string (bs y.ty))) (hb : b < w.heap.size) :
    Calls Tryz.prog 107 #[.slice A n c, .func (.func 94) #[] #[.pointer (some ⟨b, 0, none⟩)]] w
      fun e w' => ∃ k : Int, e = .returned (.int .i64 k) ∧ (xs.any (twinB y) = true → ∃ m : Nat, k = m) ∧ (xs.any (twinB y) = false → k = -1) ∧ Below w.heap.size w w' := by
  have hl : xs.length = n := R.1
  have HL := Lib.hid hl
  have HR := Lib.hid R
  have HC := Lib.hid (fun (W : World) (x : MethD) A i j B k l (hB : Below w.heap.size w W) => msame_any x y A i j B k l b W ((hB.cell (p := ⟨b, 0, none⟩) hb).trans h) ((hB.cell (p := ⟨b, 1, none⟩) hb).trans h') (Nat.lt_of_lt_of_le hb hB.size))
  clear hl R h hb h'
  go_enter Tryz.func107, Tryz.ntmps107
  go_wp2
  go_loopw [5, 8] (fun _ i wr => ∃ k : Nat, k ≤ n ∧ i = .int .i64 k ∧ Hid ((xs.take k).any (twinB y) = false) ∧ Hid (Below w.heap.size w wr)) (fun _ i _ => n - (intOf i).toNat)
  case atStart => exact ⟨0, Nat.zero_le _, rfl, Lib.hid rfl, Lib.hid (Below.refl _ _)⟩
  case round =>
    obtain ⟨k, hk, rfl, HT, HB⟩ := hrel
    by_cases hlt : k < n
    · obtain ⟨b1, o1, rfl, hb1, hx1⟩ := (MethRow.below HR.out HB.out).at_ hlt
      have hk1 : k < xs.length := by rw [HL.out]; exact hlt
      have HX := HC.out wr xs[k]
      have HTN := Lib.hid (show twinB y xs[k] = false → _ from fun h => any_take (p := twinB y) hk1 HT.out h)
      have HTA := Lib.hid (show twinB y xs[k] = true → _ from fun h => any_at (p := twinB y) hk1 h)
      generalize xs[k] = x at *
      obtain ⟨c0, c1, c2, c3, c4, c5, ⟨A1, n1, m1, c6, _⟩, ⟨A2, n2, m2, c7, _⟩⟩ := hx1
      replace HX := HX A1 n1 m1 A2 n2 m2
      unfold methV at HX
      cases he : twinB y x with
      | true =>
        rw [he] at HX
        replace HX := Lib.hid HX
        have HA := Lib.hid (HTA.out he)
        clear HTN HTA he
        go_wp2_with (first
          | (go_at_call 94; (with_reducible refine (HX.out HB.out).mono ?_); rintro e w1 ⟨rfl, hb⟩
             have HB1 := Lib.hid (bnext HB.out hb)
             clear hb))
        go_ret
        exact ⟨_, rfl, fun _ => ⟨k, rfl⟩, fun h => absurd (HA.out.symm.trans h) (by simp), HB1.out⟩
      | false =>
        rw [he] at HX
        replace HX := Lib.hid HX
        have HA := Lib.hid (HTN.out he)
        clear HTN HTA he
        go_wp2_with (first
          | (go_at_call 94; (with_reducible refine (HX.out HB.out).mono ?_); rintro e w1 ⟨rfl, hb⟩
             have HB1 := Lib.hid (bnext HB.out hb)
             clear hb))
        go_roundw
        case rel => exact ⟨k + 1, by omega, by go_num, HA, HB1⟩
        case measure => first | (simp [intOf]; omega) | simp [intOf]
    · obtain rfl : k = n := by omega
      have h := HT.out
      rw [List.take_of_length_le (by rw [HL.out]; exact Nat.le_refl _)] at h
      replace h := Lib.hid h
      go_wp2
      go_ret
      exact ⟨_, rfl, fun h' => absurd (h.out.symm.trans h') (by simp), fun _ => rfl, HB.out⟩
set_option maxHeartbeats 1000000 in
theorem mhas_any (xs : List MethD) (y : MethD) (b : Nat) (A : Option Addr) (n c : Nat) (w : World) (R : MethRow w A n c xs) (hn : n ≤ 140737488351232) (h : w.cell? ⟨b, 0, none⟩ = some (.string (bs y.nm))) (h' : w.cell? ⟨b, 1, none⟩ = some (.string (bs y.ty))) (hb : b < w.heap.size) :
    Calls Tryz.prog 95 #[.slice A n c, .func (.func 94) #[] #[.pointer (some ⟨b, 0, none⟩)]] w
      fun e w' => e = .returned (.bool (xs.any (twinB y))) ∧ Below w.heap.size w w' := by
  have H := Lib.hid (mindex_any xs y b A n c w R hn h h' hb)
  clear R h hb h'
  generalize xs.any (twinB y) = q at *
  cases q with
  | true =>
    go_enter Tryz.func95, Tryz.ntmps95
    go_wp2_with (first
      | (go_at_call 107; (with_reducible refine H.out.mono ?_); rintro e w1 ⟨k, rfl, h1, _, hb⟩
         obtain ⟨m, rfl⟩ := h1 rfl
         have HB1 := Lib.hid hb
         clear hb h1))
    go_ret
    exact ⟨ret_bool (by simp), HB1.out⟩
  | false =>
    go_enter Tryz.func95, Tryz.ntmps95
    go_wp2_with (first
      | (go_at_call 107; (with_reducible refine H.out.mono ?_); rintro e w1 ⟨k, rfl, _, h2, hb⟩
         obtain rfl := h2 rfl
         have HB1 := Lib.hid hb
         clear hb h2))
    go_ret
    exact ⟨ret_bool (by simp), HB1.out⟩
end Go.Proofs.YtkolpbjpgobkcaaGreatDoor
namespace Go.Proofs.YtkolpbjpgobkcaaGreatDoor
open Go.ChangeShapes Go.WideShapes Go.ChangeAt Go.RowKit
set_option linter.unusedVariables false
attribute [local go_sem] eqGuard_errV_nil eqGuard_errV_iface eql_errV_nil neq_errV_nil eql_errV_form

/-- The smallest number of locals above n that is enough for the instructions. -/
def needN (n : Int) (l : List InsD) : Int := l.foldl (fun n x => if x.op = 4 ∨ x.op = 5 then max n (x.a + 1) else n) n
theorem need_next {n : Int} {l : List InsD} {k : Nat} (hk : k < l.length) : needN n (l.take (k + 1)) = if l[k].op = 4 ∨ l[k].op = 5 then max (needN n (l.take k)) (l[k].a + 1) else needN n (l.take k) := by
  unfold needN
  rw [List.take_succ_eq_append_getElem hk, List.foldl_append]
  rfl
theorem need_lt : ∀ {l : List InsD} {n lo : Int}, lo < needN n l ↔ lo < n ∨ l.any (localB lo) = true
  | [], n, lo => by simp [needN]
  | x :: t, n, lo => by
    have ih := need_lt (l := t) (n := if x.op = 4 ∨ x.op = 5 then max n (x.a + 1) else n) (lo := lo)
    show lo < needN _ t ↔ _
    rw [ih, List.any_cons, Bool.or_eq_true, localB, Bool.and_eq_true, decide_eq_true_eq, decide_eq_true_eq]
    generalize t.any (localB lo) = q
    split <;> cases q <;> simp <;> omega
theorem need_bound : ∀ {l : List InsD} {n : Int}, 0 ≤ n → n ≤ 8 → (∀ x ∈ l, x.op = 4 ∨ x.op = 5 → 0 ≤ x.a ∧ x.a ≤ 7) → 0 ≤ needN n l ∧ needN n l ≤ 8
  | [], n, h0, h8, _ => ⟨h0, h8⟩
  | x :: t, n, h0, h8, h => by
    have hx := h x (by simp)
    show 0 ≤ needN _ t ∧ needN _ t ≤ 8
    refine need_bound ?_ ?_ fun y hy => h y (by simp [hy]) <;> dsimp only <;> split <;> omega
theorem good_local {x : InsD} (h : insF x = 0) (ho : x.op = 4 ∨ x.op = 5) : 0 ≤ x.a ∧ x.a ≤ 7 := by
  obtain ⟨k, hx, h0, hk, ho', hr, _⟩ := insF_zero h
  unfold rangeB at hr
  rw [if_neg (by omega), if_pos ho] at hr
  have := of_decide_eq_true hr
  omega
theorem flow_local {l : List InsD} (hw : ∀ x ∈ l, x.wf) (h : flowF l = 0) : ∀ x ∈ l, x.op = 4 ∨ x.op = 5 → 0 ≤ x.a ∧ x.a ≤ 7 := fun x hx ho => good_local (((flowF_ok hw).1 h).2.1 x hx).2 ho
theorem flow_len {l : List InsD} (hw : ∀ x ∈ l, x.wf) (h : flowF l = 0) : l.length ≤ 40 := ((flowF_ok hw).1 h).1

set_option maxRecDepth 20000 in
set_option maxHeartbeats 4000000 in
theorem needs_any (m : MethD) (q : Nat) (A : Option Addr) (i j : Nat) (B : Option Addr) (k l : Nat) (w : World) (RC : InsRow w A i j m.code) (hq : q ≤ 5) (hi : i ≤ 40) (hc : ∀ x ∈ m.code, x.op = 4 ∨ x.op = 5 → 0 ≤ x.a ∧ x.a ≤ 7) :
    Calls Tryz.prog 109 #[methV m A i j B k l, .int .i64 (q : Int)] w fun e w' => e = .returned (.int .i64 (needN ((q + if m.st then 0 else 1 : Nat) : Int) m.code)) ∧ Below w.heap.size w w' := by
  have hl : m.code.length = i := RC.1
  have HL := Lib.hid hl
  have HB0 := Lib.hid (al1 w (.cells #[.string (bs m.nm), .string (bs m.ty), .bool m.st, .bool m.ab, .bool m.pr, .int .i64 m.lo, .slice A i j, .slice B k l] 35))
  have HR := Lib.hid (RC.below HB0.out)
  have HC := Lib.hid hc
  clear hl RC hc
  unfold methV
  obtain ⟨n0, hn0⟩ : ∃ n0 : Int, n0 = ((q + if m.st then 0 else 1 : Nat) : Int) := ⟨_, rfl⟩
  rw [← hn0]
  have hst : (m.st = true ∧ n0 = q) ∨ (m.st = false ∧ n0 = (q : Int) + 1) := by
    cases h : m.st with
    | true => rw [h] at hn0; exact .inl ⟨rfl, by simpa using hn0⟩
    | false => rw [h] at hn0; exact .inr ⟨rfl, by simpa using hn0⟩
  clear hn0
  rcases hst with ⟨h1, h2⟩ | ⟨h1, h2⟩
  all_goals
    rw [h1] at HB0 HR ⊢
    have h3 : 0 ≤ n0 ∧ n0 ≤ 8 := by omega
    have hwr : IntKind.i64.wrap ((q : Int) + 1) = (q : Int) + 1 := by rw [IntKind.wrap_i64]; omega
    go_enter Tryz.func109, Tryz.ntmps109
    go_wp2
    generalize w.alloc _ = v at *
    go_loopw [5, 7, 17] (fun nv _ i' wr => ∃ k : Nat, k ≤ i ∧ i' = .int .i64 k ∧ nv = .int .i64 (needN n0 (m.code.take k)) ∧ Hid (Below v.heap.size v wr)) (fun _ _ i' _ => i - (intOf i').toNat)
    case atStart => exact ⟨0, Nat.zero_le _, rfl, (show _ = Value.int .i64 n0 by rw [h2]), Lib.hid (Below.refl _ _)⟩
    case round =>
      obtain ⟨a, ha, rfl, rfl, HB⟩ := hrel
      by_cases hlt : a < i
      · obtain ⟨b1, o1, rfl, hb1, hx1⟩ := (HR.out.below HB.out).at_ hlt
        have ha1 : a < m.code.length := by rw [HL.out]; exact hlt
        have HN := need_next (n := n0) ha1
        have hxc := HC.out m.code[a] (List.getElem_mem ha1)
        obtain ⟨d1, d2⟩ := need_bound (l := m.code.take a) h3.1 h3.2 fun x hx => HC.out x (List.mem_of_mem_take hx)
        generalize needN n0 (m.code.take a) = cur at *
        generalize m.code[a] = x at *
        obtain ⟨xo, xa, xb, xt, xc, xn⟩ := x
        obtain ⟨c0, c1, c2, c3, c4, c5⟩ := hx1
        simp only at HN hxc
        have hc : (xo = 4 ∧ xa + 1 ≤ cur) ∨ (xo = 4 ∧ cur < xa + 1) ∨ (xo = 5 ∧ xa + 1 ≤ cur) ∨ (xo = 5 ∧ cur < xa + 1) ∨ (¬ xo = 4 ∧ ¬ xo = 5) := by omega
        rcases hc with ⟨g1, g2⟩ | ⟨g1, g2⟩ | ⟨g1, g2⟩ | ⟨g1, g2⟩ | ⟨g1, g2⟩
        · have HV := Lib.hid (show needN n0 (m.code.take (a + 1)) = cur by rw [HN, if_pos (.inl g1)]; omega)
          have hxa := hxc (.inl g1)
          subst g1
          clear HN hxc h1 h2
          go_wp2
          go_roundw
          case rel => exact ⟨a + 1, by omega, by go_num, by rw [HV.out]; go_num, Lib.hid (bnext HB.out (al1 _ _))⟩
          case measure => first | (simp [intOf]; omega) | simp [intOf]
        · have HV := Lib.hid (show needN n0 (m.code.take (a + 1)) = xa + 1 by rw [HN, if_pos (.inl g1)]; omega)
          have hxa := hxc (.inl g1)
          subst g1
          clear HN hxc h1 h2
          go_wp2
          go_roundw
          case rel => exact ⟨a + 1, by omega, by go_num, by rw [HV.out]; go_num, Lib.hid (bnext HB.out (al1 _ _))⟩
          case measure => first | (simp [intOf]; omega) | simp [intOf]
        · have HV := Lib.hid (show needN n0 (m.code.take (a + 1)) = cur by rw [HN, if_pos (.inr g1)]; omega)
          have hxa := hxc (.inr g1)
          subst g1
          clear HN hxc h1 h2
          go_wp2
          go_roundw
          case rel => exact ⟨a + 1, by omega, by go_num, by rw [HV.out]; go_num, Lib.hid (bnext HB.out (al1 _ _))⟩
          case measure => first | (simp [intOf]; omega) | simp [intOf]
        · have HV := Lib.hid (show needN n0 (m.code.take (a + 1)) = xa + 1 by rw [HN, if_pos (.inr g1)]; omega)
          have hxa := hxc (.inr g1)
          subst g1
          clear HN hxc h1 h2
          go_wp2
          go_roundw
          case rel => exact ⟨a + 1, by omega, by go_num, by rw [HV.out]; go_num, Lib.hid (bnext HB.out (al1 _ _))⟩
          case measure => first | (simp [intOf]; omega) | simp [intOf]
        · have HV := Lib.hid (show needN n0 (m.code.take (a + 1)) = cur by rw [HN, if_neg (by omega)])
          have e4 : (xo == 4) = false := by simpa using g1
          have e5 : (xo == 5) = false := by simpa using g2
          clear HN hxc h1 h2 g1 g2
          go_wp2
          go_roundw
          case rel => exact ⟨a + 1, by omega, by go_num, by rw [HV.out], Lib.hid (bnext HB.out (al1 _ _))⟩
          case measure => first | (simp [intOf]; omega) | simp [intOf]
      · obtain rfl : a = i := by omega
        rw [List.take_of_length_le (by rw [HL.out]; exact Nat.le_refl _)]
        go_wp2
        go_ret
        exact ⟨rfl, bnext HB0.out HB.out⟩

theorem handF_span {n : Nat} {pre : List HandD} {x : HandD} (h : spanB n x = false) : handF n pre x = 2 := by unfold handF; rw [if_pos h]
theorem handF_name {n : Nat} {pre : List HandD} {x : HandD} (h : spanB n x = true) (h2 : nameB x.cl = false) : handF n pre x = 1 := by unfold handF; rw [h, if_neg (by simp), if_pos h2]
theorem handF_none {n : Nat} {pre : List HandD} {x : HandD} (h : spanB n x = true) (h2 : nameB x.cl = true) : handF n pre x = 0 := by unfold handF; rw [h, h2, if_neg (by simp), if_neg (by simp)]
set_option maxRecDepth 20000 in
set_option maxHeartbeats 4000000 in
theorem hands_any (l : List HandD) (A : Option Addr) (n c m : Nat) (w : World) (R : HandRow w A n c l) (hn : n ≤ 140737488351232) (hs : ∀ x ∈ l, x.cl.length ≤ 140737488351232) (hm : m ≤ 140737488351232) :
    Calls Tryz.prog 110 #[.slice A n c, .int .i64 (m : Int)] w fun e w' => e = .returned (errV (handsF l m)) ∧ Below w.heap.size w w' := by
  have hl : l.length = n := R.1
  have HL := Lib.hid hl
  have HR := Lib.hid R
  have HS := Lib.hid hs
  clear hl R hs
  go_enter Tryz.func110, Tryz.ntmps110
  go_wp2_with fail
  go_loopw [6, 9] (fun _ i wr => ∃ j : Nat, j ≤ n ∧ i = .int .i64 j ∧ Hid (∀ (i : Nat) (hi : i < l.length), i < j → handF m (l.take i) l[i] = 0) ∧ Hid (Below w.heap.size w wr)) (fun _ i _ => n - (intOf i).toNat)
  case atStart => exact ⟨0, Nat.zero_le _, rfl, Lib.hid (fun i hi h => by omega), Lib.hid (Below.refl _ _)⟩
  case round =>
    obtain ⟨j, hj, rfl, HG, HB⟩ := hrel
    by_cases hlt : j < n
    · obtain ⟨b1, o1, rfl, hb1, hx1⟩ := (HR.out.below HB.out).at_ hlt
      have hj1 : j < l.length := by rw [HL.out]; exact hlt
      have hsz : (bs l[j].cl).size ≤ maxLen := by have := HS.out l[j] (List.getElem_mem _); rw [bs_size]; unfold maxLen; omega
      have HZ := Lib.hid (show handF m (l.take j) l[j] = 0 → _ from fun h => hand_next HG.out hj1 h)
      have HF := Lib.hid (show handF m (l.take j) l[j] ≠ 0 → _ from fun h => handsF_at hj1 HG.out h)
      generalize l.take j = pre at *
      generalize l[j] = x at *
      cases hsp : spanB m x with
      | false =>
        have HC := Lib.hid (HF.out (by rw [handF_span hsp]; decide))
        rw [handF_span hsp] at HC
        have hcase := span_cases hsp
        clear HZ HF hsp
        obtain ⟨xf, xt, xp, xc⟩ := x
        obtain ⟨c0, c1, c2, c3⟩ := hx1
        simp only at hcase
        rcases hcase with h1 | ⟨h1, h2⟩ | ⟨h1, h2, h3⟩ | ⟨h1, h2, h3, h4⟩ | ⟨h1, h2, h3, h4, h5⟩
        all_goals
          go_wp2_with fail
          go_ret
          exact ⟨ret_err (by rw [HC.out]; rfl), bnext HB.out (al1 _ _)⟩
      | true =>
        have hcase := span_true hsp
        cases hnb : nameB x.cl with
        | false =>
          have HC := Lib.hid (HF.out (by rw [handF_name hsp hnb]; decide))
          rw [handF_name hsp hnb] at HC
          have HN := fun w => check_no (bs x.cl) w hnb hsz
          clear HZ HF hsp hnb hsz
          obtain ⟨xf, xt, xp, xc⟩ := x
          obtain ⟨c0, c1, c2, c3⟩ := hx1
          simp only at hcase HN
          obtain ⟨h1, h2, h3, h4, h5⟩ := hcase
          replace HN := Lib.hid HN
          go_wp2_with (first
            | (go_at_call 70; (with_reducible refine (HN.out _).mono ?_); rintro e w1 ⟨rfl, rfl⟩))
          go_ret
          exact ⟨ret_err (by rw [HC.out]; rfl), bnext HB.out (al1 _ _)⟩
        | true =>
          have HC := Lib.hid (HZ.out (handF_none hsp hnb))
          have HN := fun w => check_yes (bs x.cl) w hnb hsz
          clear HZ HF hsp hnb hsz
          obtain ⟨xf, xt, xp, xc⟩ := x
          obtain ⟨c0, c1, c2, c3⟩ := hx1
          simp only at hcase HN
          obtain ⟨h1, h2, h3, h4, h5⟩ := hcase
          replace HN := Lib.hid HN
          have HB1 := Lib.hid (bnext HB.out (al1 wr (.cells #[.int .i64 xf, .int .i64 xt, .int .i64 xp, .string (bs xc)] 81)))
          go_wp2_with (first
            | (go_at_call 70; (with_reducible refine (HN.out _).mono ?_); rintro e w1 ⟨rfl, rfl⟩))
          go_roundw
          case rel => exact ⟨j + 1, by omega, by go_num, HC, HB1⟩
          case measure => first | (simp [intOf]; omega) | simp [intOf]
    · obtain rfl : j = n := by omega
      have HE := Lib.hid (handsF_end (n := m) (l := l) (fun i hi h => HG.out i hi (by rw [← HL.out]; exact h)))
      rw [HL.out] at HE
      by_cases h8 : 8 < j
      all_goals
        have HH := Lib.hid HE.out
        first
        | rw [if_pos h8] at HH
        | rw [if_neg h8] at HH
        go_wp2
        go_ret
        exact ⟨ret_err (by rw [HH.out]; rfl), HB.out⟩
end Go.Proofs.YtkolpbjpgobkcaaGreatDoor
namespace Go.Proofs.YtkolpbjpgobkcaaGreatDoor
open Go.ChangeShapes Go.WideShapes Go.ChangeAt Go.RowKit
set_option linter.unusedVariables false
attribute [local go_sem] eqGuard_errV_nil eqGuard_errV_iface eql_errV_nil neq_errV_nil eql_errV_form

set_option maxRecDepth 20000 in
set_option maxHeartbeats 4000000 in
theorem body_bare (m : MethD) (A : Option Addr) (i j : Nat) (B : Option Addr) (k l : Nat) (w : World) (RC : InsRow w A i j m.code) (RH : HandRow w B k l m.hs) (hi : i ≤ 140737488351232) (hk : k ≤ 140737488351232) (hab : m.ab = true) :
    Calls Tryz.prog 96 #[methV m A i j B k l, .int .i64 (argsN m.ty : Int)] w fun e w' => e = .returned (errV (bareF m)) ∧ Below w.heap.size w w' := by
  have hci : m.code.length = i := RC.1
  have hhk : m.hs.length = k := RH.1
  have hc : (m.st = true ∧ bareF m = 8) ∨ (m.st = false ∧ m.pr = true ∧ bareF m = 8) ∨ (m.st = false ∧ m.pr = false ∧ 0 < i ∧ bareF m = 8) ∨ (m.st = false ∧ m.pr = false ∧ i = 0 ∧ 0 < k ∧ bareF m = 8) ∨ (m.st = false ∧ m.pr = false ∧ i = 0 ∧ k = 0 ∧ bareF m = 0) := by
    unfold bareF
    rw [hci, hhk]
    cases m.st with
    | true => exact .inl ⟨rfl, by simp⟩
    | false =>
      cases m.pr with
      | true => exact .inr (.inl ⟨rfl, rfl, by simp⟩)
      | false =>
        rcases Nat.eq_zero_or_pos i with h | h
        · rcases Nat.eq_zero_or_pos k with h' | h'
          · exact .inr (.inr (.inr (.inr ⟨rfl, rfl, h, h', by simp [h, h']⟩)))
          · exact .inr (.inr (.inr (.inl ⟨rfl, rfl, h, h', by have : k ≠ 0 := by omega
                                                              simp [h, this]⟩)))
        · exact .inr (.inr (.inl ⟨rfl, rfl, h, by have : i ≠ 0 := by omega
                                                  simp [this]⟩))
  clear RC RH hci hhk
  unfold methV
  rw [hab]
  clear hab
  rcases hc with ⟨h1, hv⟩ | ⟨h1, h2, hv⟩ | ⟨h1, h2, h3, hv⟩ | ⟨h1, h2, h3, h4, hv⟩ | ⟨h1, h2, h3, h4, hv⟩
  all_goals
    rw [hv, h1]
    try rw [h2]
    clear hv
    go_enter Tryz.func96, Tryz.ntmps96
    go_wp2_with fail
    go_ret
    exact ⟨rfl, al1 _ _⟩

theorem fcheck_zero {w w' : World} {l : List InsD} {e : Ending} (h0 : flowF l = 0) (h : e = .returned (errV (flowF l)) ∧ Below w.heap.size w w') : e = .returned .nilIface ∧ Below w.heap.size w w' := ⟨by rw [h.1, h0]; rfl, h.2⟩
set_option maxRecDepth 20000 in
set_option maxHeartbeats 8000000 in
theorem body_rest (m : MethD) (A : Option Addr) (i j : Nat) (B : Option Addr) (k l : Nat) (w : World) (T : Tab w) (RC : InsRow w A i j m.code) (RH : HandRow w B k l m.hs) (hm : m.upto 140737488351232) (hw : m.wf) (hab : m.ab = false) :
    Calls Tryz.prog 96 #[methV m A i j B k l, .int .i64 (argsN m.ty : Int)] w fun e w' => e = .returned (errV (bodyF m)) ∧ Below w.heap.size w w' := by
  have hci : m.code.length = i := RC.1
  have hhk : m.hs.length = k := RH.1
  have hi2 : i ≤ 140737488351232 := by have := hm.2.2.1.2; omega
  have hk2 : k ≤ 140737488351232 := by have := hm.2.2.2.2; omega
  have HFc := fun W T R => fcheck_any m.code A i j W T R hw.2.1 hm.2.2.1.1
  have HHa := Lib.hid (fun W R => hands_any m.hs B k l i W R hk2 hm.2.2.2.1 hi2)
  have HB0 := Lib.hid (al1 w (.cells #[.string (bs m.nm), .string (bs m.ty), .bool m.st, .bool m.ab, .bool m.pr, .int .i64 m.lo, .slice A i j, .slice B k l] 35))
  have HX := Lib.hid (mbox_at w m A i j B k l 35 (0, 0))
  have HT := Lib.hid (T.below HB0.out)
  have HRC := Lib.hid (RC.below HB0.out)
  have HRH := Lib.hid (RH.below HB0.out)
  by_cases hfl : flowF m.code = 0
  · have HLn := Lib.hid (fun W R => needs_any m (argsN m.ty) A i j B k l W R (argsN_le _) (by have := flow_len hw.2.1 hfl; omega) (flow_local hw.2.1 hfl))
    have HF0 := Lib.hid (fun W T R => (HFc W T R).mono fun e w' h => fcheck_zero hfl h)
    have HFew := Lib.hid (fun h => bodyF_few hfl h)
    have HLoc := Lib.hid (fun h1 h2 => bodyF_local hfl h1 h2)
    have HHan := Lib.hid (fun h1 h2 => bodyF_hands hfl h1 h2)
    have HNd := Lib.hid (need_lt (l := m.code) (n := (wantsN m : Int)) (lo := m.lo))
    rw [show ((argsN m.ty + if m.st then 0 else 1 : Nat) : Int) = (wantsN m : Int) from rfl] at HLn
    have hcase : (m.lo < needN (wantsN m : Int) m.code ∧ bodyF m = 2) ∨ (¬ m.lo < needN (wantsN m : Int) m.code ∧ bodyF m = handsF m.hs i) := by
      by_cases h1 : m.lo < (wantsN m : Int)
      · exact .inl ⟨need_lt.2 (.inl h1), bodyF_few hfl h1⟩
      · cases h2 : m.code.any (localB m.lo) with
        | true => exact .inl ⟨need_lt.2 (.inr h2), bodyF_local hfl h1 h2⟩
        | false => exact .inr ⟨fun h => (need_lt.1 h).elim h1 fun h => absurd (h2.symm.trans h) (by simp), by rw [bodyF_hands hfl h1 h2, hci]⟩
    clear HFc T RC RH hm hw hfl
    generalize needN (wantsN m : Int) m.code = nd at *
    unfold methV at HLn ⊢
    rw [hab] at HB0 HX HT HRC HRH HLn ⊢
    rcases hcase with ⟨hlt, hv⟩ | ⟨hlt, hv⟩
    all_goals
      rw [hv]
      clear hv
      go_enter Tryz.func96, Tryz.ntmps96
      go_wp2_with (first
        | (go_at_call 108; (with_reducible refine (HF0.out _ HT.out HRC.out).mono ?_); rintro e w1 ⟨rfl, hb⟩
           have HB1 := Lib.hid (bnext HB0.out hb)
           have HR1 := Lib.hid (HRC.out.below hb)
           have HH1 := Lib.hid (HRH.out.below hb)
           have BX := HX.out.below hb
           have HX1 := Lib.hid BX
           rw [MBox, hab] at BX
           obtain ⟨q0, q1, q2, q3, q4, q5, q6, q7, q8⟩ := BX
           clear hb))
      first | go_region_held (fun w' => w'.cell? ⟨w.heap.size, 0, none⟩ = some (.string (bs m.nm)) ∧ w'.cell? ⟨w.heap.size, 1, none⟩ = some (.string (bs m.ty)) ∧ w'.cell? ⟨w.heap.size, 2, none⟩ = some (.bool m.st) ∧ w'.cell? ⟨w.heap.size, 3, none⟩ = some (.bool false) ∧ w'.cell? ⟨w.heap.size, 4, none⟩ = some (.bool m.pr) ∧ w'.cell? ⟨w.heap.size, 5, none⟩ = some (.int .i64 m.lo) ∧ w'.cell? ⟨w.heap.size, 6, none⟩ = some (.slice A i j) ∧ w'.cell? ⟨w.heap.size, 7, none⟩ = some (.slice B k l)) (first | exact ⟨q1, q2, q3, q4, q5, q6, q7, q8⟩ | exact ⟨r1, r2, r3, r4, r5, r6, r7, r8⟩)
        (first
          | (go_at_call 109; (with_reducible refine (HLn.out w1.drew (HR1.out.below (drew_behind (Below.refl _ _)))).mono ?_); rintro e w2 ⟨rfl, hb⟩
             have HB2 := Lib.hid (bnext (drew_behind HB1.out) hb)
             have HH2 := Lib.hid (HandRow.below (HandRow.below HH1.out (drew_behind (Below.refl _ _))) hb)
             have BY := MBox.below (MBox.below HX1.out (drew_behind (Below.refl _ _))) hb
             rw [MBox, hab] at BY
             obtain ⟨r0, r1, r2, r3, r4, r5, r6, r7, r8⟩ := BY
             clear hb)) | fail
    all_goals
      go_wp2_with (first
        | (go_at_call 110; (with_reducible refine (HHa.out _ HH2.out).mono ?_); rintro e w3 ⟨rfl, hb⟩
           have HB3 := Lib.hid (bnext HB2.out hb)
           clear hb))
      go_ret
      first
      | exact ⟨rfl, HB2.out⟩
      | exact ⟨rfl, HB3.out⟩
  · have hne : (flowF m.code != 0) = true := by rw [bne_iff_ne]; exact hfl
    have HV := Lib.hid (bodyF_code hfl)
    rw [HV.out]
    replace HFc := Lib.hid HFc
    clear HHa hfl T RC RH hm hw HV
    generalize flowF m.code = ff at *
    unfold methV
    rw [hab] at HB0 HX HT HRC HRH ⊢
    go_enter Tryz.func96, Tryz.ntmps96
    go_wp2_with (first
      | (go_at_call 108; (with_reducible refine (HFc.out _ HT.out HRC.out).mono ?_); rintro e w1 ⟨rfl, hb⟩
         have HB1 := Lib.hid (bnext HB0.out hb)
         clear hb))
    go_ret
    exact ⟨rfl, HB1.out⟩
theorem body_any (m : MethD) (A : Option Addr) (i j : Nat) (B : Option Addr) (k l : Nat) (w : World) (T : Tab w) (RC : InsRow w A i j m.code) (RH : HandRow w B k l m.hs) (hm : m.upto 140737488351232) (hw : m.wf) :
    Calls Tryz.prog 96 #[methV m A i j B k l, .int .i64 (argsN m.ty : Int)] w fun e w' => e = .returned (errV (if m.ab = true then bareF m else bodyF m)) ∧ Below w.heap.size w w' := by
  cases hab : m.ab with
  | true =>
    rw [if_pos rfl]
    exact body_bare m A i j B k l w RC RH (by have := hm.2.2.1.2; have : m.code.length = i := RC.1; omega) (by have := hm.2.2.2.2; have : m.hs.length = k := RH.1; omega) hab
  | false =>
    rw [if_neg (by simp)]
    exact body_rest m A i j B k l w T RC RH hm hw hab
end Go.Proofs.YtkolpbjpgobkcaaGreatDoor
namespace Go.Proofs.YtkolpbjpgobkcaaGreatDoor
open Go.ChangeShapes Go.WideShapes Go.ChangeAt Go.RowKit
set_option linter.unusedVariables false
attribute [local go_sem] eqGuard_errV_nil eqGuard_errV_iface eql_errV_nil neq_errV_nil eql_errV_form

theorem method_row {w w' : World} {l : List UInt8} {e : Ending} (h : MethodSays w l (errV (methF l)) e w') : ∃ A c t, e = .returned (.tuple #[.slice A (argsN l) c, .string t, errV (methF l)]) ∧ Below w.heap.size w w' := by
  obtain ⟨hb, v, rfl, hv⟩ := h
  obtain ⟨A, c, rfl⟩ := own_form hv
  exact ⟨A, c, _, by rw [argsN_methP], hb⟩
theorem method_yes {w w' : World} {l : List UInt8} {e : Ending} (h0 : (methodB l).isSome = true) (h : MethodSays w l (errV (methF l)) e w') : ∃ A c t, e = .returned (.tuple #[.slice A (argsN l) c, .string t, .nilIface]) ∧ Below w.heap.size w w' := by
  obtain ⟨A, c, t, h1, h2⟩ := method_row h
  exact ⟨A, c, t, by rw [h1, show methF l = 0 by unfold methF; rw [if_pos h0]]; rfl, h2⟩
theorem method_no {w w' : World} {l : List UInt8} {e : Ending} (h0 : (methodB l).isSome = false) (h : MethodSays w l (errV (methF l)) e w') : ∃ A c t, e = .returned (.tuple #[.slice A (argsN l) c, .string t, errV 1]) ∧ Below w.heap.size w w' := by
  obtain ⟨A, c, t, h1, h2⟩ := method_row h
  exact ⟨A, c, t, by rw [h1, show methF l = 1 by unfold methF; rw [h0]; rfl], h2⟩

set_option maxRecDepth 20000 in
set_option maxHeartbeats 16000000 in
theorem meths_any (xs : List MethD) (A : Option Addr) (n c : Nat) (w : World) (T : Tab w) (R : MethRow w A n c xs) (hn : n ≤ 140737488351232) (hs : ∀ x ∈ xs, x.upto 140737488351232) (hw : ∀ x ∈ xs, x.wf) :
    Calls Tryz.prog 73 #[.slice A n c] w fun e w' => e = .returned (errV (firstAt mtdF xs)) ∧ Below w.heap.size w w' := by
  have hl : xs.length = n := R.1
  have HL := Lib.hid hl
  have HR := Lib.hid R
  have HS := Lib.hid hs
  have HW := Lib.hid hw
  have HT0 := Lib.hid T
  clear hl R hs hw T
  go_enter Tryz.func73, Tryz.ntmps73
  go_wp2
  go_loopw [3, 4, 5, 6, 7, 8, 9, 12] (fun _ _ _ _ _ _ _ i wr => ∃ k : Nat, k ≤ n ∧ i = .int .i64 k ∧ Hid (CleanTo mtdF xs k) ∧ Hid (Below w.heap.size w wr)) (fun _ _ _ _ _ _ _ i _ => n - (intOf i).toNat)
  case atStart => exact ⟨0, Nat.zero_le _, rfl, Lib.hid (CleanTo.start _ _), Lib.hid (Below.refl _ _)⟩
  case round =>
    obtain ⟨k, hk, rfl, HT, HB⟩ := hrel
    by_cases hlt : k < n
    · obtain ⟨b1, o1, rfl, hb1, hx1⟩ := (MethRow.below HR.out HB.out).at_ hlt
      have hk1 : k < xs.length := by rw [HL.out]; exact hlt
      have hys := HS.out _ (List.getElem_mem hk1)
      have hyw := HW.out _ (List.getElem_mem hk1)
      have hs1 : (bs xs[k].nm).size ≤ maxLen := by rw [bs_size]; have := hys.1; unfold maxLen; omega
      have hs2 : (bs xs[k].ty).size ≤ 140737488351232 := by rw [bs_size]; exact hys.2.1
      have HFa := Lib.hid (show mtdF (xs.take k) xs[k] ≠ 0 → _ from fun h => HT.out.fault hk1 h)
      have HNx := Lib.hid (show mtdF (xs.take k) xs[k] = 0 → _ from fun h => HT.out.next hk1 h)
      have hcut := fun W => pre_meth b1 o1 n c k (Nat.le_trans hk HR.out.2.1) W
      have HHas := fun (W : World) (hB : Below w.heap.size w W) (h : W.cell? ⟨wr.heap.size, 0, none⟩ = some (.string (bs xs[k].nm))) (h' : W.cell? ⟨wr.heap.size, 1, none⟩ = some (.string (bs xs[k].ty))) (hb : wr.heap.size < W.heap.size) =>
        mhas_any (xs.take k) xs[k] wr.heap.size (some ⟨b1, o1, none⟩) k c W (MethRow.below (MethRow.take HR.out hk) hB) (by omega) h h' hb
      generalize xs.take k = pre at *
      generalize xs[k] = y at *
      obtain ⟨c0, c1, c2, c3, c4, c5, ⟨A1, n1, m1, c6, R1, _⟩, ⟨A2, n2, m2, c7, R2, _⟩⟩ := hx1
      have HX := Lib.hid (mbox_at wr y A1 n1 m1 A2 n2 m2 35 (0, 0))
      have HB0 := Lib.hid (al1 wr (.cells #[.string (bs y.nm), .string (bs y.ty), .bool y.st, .bool y.ab, .bool y.pr, .int .i64 y.lo, .slice A1 n1 m1, .slice A2 n2 m2] 35))
      have HBo := fun W T RC RH => body_any y A1 n1 m1 A2 n2 m2 W T RC RH hys hyw
      have HRC := Lib.hid (R1.below HB0.out)
      have HRH := Lib.hid (HandRow.below R2 HB0.out)
      have HT1 := Lib.hid (HT0.out.below (bnext HB.out HB0.out))
      clear R1 R2 hys hyw
      cases hmy : (methodB y.ty).isSome with
      | false =>
        have HV := Lib.hid (HFa.out (by rw [mtdF_bad (by rw [hmy, Bool.and_false])]; decide))
        rw [mtdF_bad (by rw [hmy, Bool.and_false])] at HV
        have HM := Lib.hid (fun w => (method_any (bs y.ty) w hs2).mono fun e w' h => method_no hmy h)
        clear HFa HNx HHas hcut HBo hmy
        cases hny : nameB y.nm with
        | false =>
          have HNy := Lib.hid (fun w => check_no (bs y.nm) w hny hs1)
          clear hny
          go_wp2_with (first
            | (go_at_call 93; (with_reducible refine (HM.out _).mono ?_); rintro e w1 ⟨D1, d1, t1, rfl, hb⟩
               have HB1 := Lib.hid (bnext (bnext HB.out HB0.out) hb)
               obtain ⟨q0, q1, q2, q3, q4, q5, q6, q7, q8⟩ := HX.out.below hb
               clear hb)
            | (go_at_call 70; (with_reducible refine (HNy.out _).mono ?_); rintro e w2 ⟨rfl, rfl⟩))
          go_ret
          exact ⟨ret_err (by rw [HV.out]; rfl), HB1.out⟩
        | true =>
          have HNy := Lib.hid (fun w => check_yes (bs y.nm) w hny hs1)
          clear hny
          go_wp2_with (first
            | (go_at_call 93; (with_reducible refine (HM.out _).mono ?_); rintro e w1 ⟨D1, d1, t1, rfl, hb⟩
               have HB1 := Lib.hid (bnext (bnext HB.out HB0.out) hb)
               obtain ⟨q0, q1, q2, q3, q4, q5, q6, q7, q8⟩ := HX.out.below hb
               clear hb)
            | (go_at_call 70; (with_reducible refine (HNy.out _).mono ?_); rintro e w2 ⟨rfl, rfl⟩))
          go_ret
          exact ⟨ret_err (by rw [HV.out]; rfl), HB1.out⟩
      | true =>
        have HM := Lib.hid (fun w => (method_any (bs y.ty) w hs2).mono fun e w' h => method_yes hmy h)
        cases hny : nameB y.nm with
        | false =>
          have HV := Lib.hid (HFa.out (by rw [mtdF_bad (by rw [hny, Bool.false_and])]; decide))
          rw [mtdF_bad (by rw [hny, Bool.false_and])] at HV
          have HNy := Lib.hid (fun w => check_no (bs y.nm) w hny hs1)
          clear HFa HNx HHas hcut HBo hmy hny
          go_wp2_with (first
            | (go_at_call 93; (with_reducible refine (HM.out _).mono ?_); rintro e w1 ⟨D1, d1, t1, rfl, hb⟩
               have HB1 := Lib.hid (bnext (bnext HB.out HB0.out) hb)
               obtain ⟨q0, q1, q2, q3, q4, q5, q6, q7, q8⟩ := HX.out.below hb
               clear hb)
            | (go_at_call 70; (with_reducible refine (HNy.out _).mono ?_); rintro e w2 ⟨rfl, rfl⟩))
          go_ret
          exact ⟨ret_err (by rw [HV.out]; rfl), HB1.out⟩
        | true =>
          have HNy := Lib.hid (fun w => check_yes (bs y.nm) w hny hs1)
          have H0 : (nameB y.nm && (methodB y.ty).isSome) = true := by rw [hny, hmy]; rfl
          cases hin : pre.any (twinB y) with
          | true =>
            have HV := Lib.hid (HFa.out (by rw [mtdF_twice H0 hin]; decide))
            rw [mtdF_twice H0 hin] at HV
            rw [hin] at HHas
            replace HHas := Lib.hid HHas
            clear HFa HNx HBo hmy hny hin H0
            go_wp2_with (first
              | (go_at_call 93; (with_reducible refine (HM.out _).mono ?_); rintro e w1 ⟨D1, d1, t1, rfl, hb⟩
                 have HB1 := Lib.hid (bnext (bnext HB.out HB0.out) hb)
                 obtain ⟨q0, q1, q2, q3, q4, q5, q6, q7, q8⟩ := HX.out.below hb
                 clear hb)
              | (go_at_call 70; (with_reducible refine (HNy.out _).mono ?_); rintro e w2 ⟨rfl, rfl⟩)
              | (go_at_call 95; (with_reducible refine (HHas.out _ HB1.out q1 q2 q0).mono ?_); rintro e w2 ⟨rfl, hb⟩
                 have HB2 := Lib.hid (bnext HB1.out hb)
                 clear hb))
            go_ret
            exact ⟨ret_err (by rw [HV.out]; rfl), HB2.out⟩
          | false =>
            rw [hin] at HHas
            replace HHas := Lib.hid HHas
            have hr0 : y.lo < 0 ∨ 8 < y.lo ∨ (¬ y.lo < 0 ∧ ¬ 8 < y.lo) := by omega
            rcases hr0 with hr | hr | ⟨hr1, hr2⟩
            · have hv := mtdF_range (pre := pre) H0 hin (.inl hr)
              have HV := Lib.hid (HFa.out (by rw [hv]; decide))
              rw [hv] at HV
              replace HBo := Lib.hid HBo
              clear HFa HNx hmy hny hin H0 hv
              go_wp2_with (first
                | (go_at_call 93; (with_reducible refine (HM.out _).mono ?_); rintro e w1 ⟨D1, d1, t1, rfl, hb⟩
                   have HB1 := Lib.hid (bnext (bnext HB.out HB0.out) hb)
                   have HX1 := Lib.hid (HX.out.below hb)
                   have HC1 := Lib.hid (HRC.out.below hb)
                   have HH1 := Lib.hid (HandRow.below HRH.out hb)
                   have HT2 := Lib.hid (HT1.out.below hb)
                   obtain ⟨q0, q1, q2, q3, q4, q5, q6, q7, q8⟩ := HX.out.below hb
                   clear hb)
                | (go_at_call 70; (with_reducible refine (HNy.out _).mono ?_); rintro e w2 ⟨rfl, rfl⟩)
                | (go_at_call 95; (with_reducible refine (HHas.out _ HB1.out q1 q2 q0).mono ?_); rintro e w2 ⟨rfl, hb⟩
                   have HB2 := Lib.hid (bnext HB1.out hb)
                   have HC2 := Lib.hid (HC1.out.below hb)
                   have HH2 := Lib.hid (HandRow.below HH1.out hb)
                   have HT3 := Lib.hid (HT2.out.below hb)
                   obtain ⟨r0, r1, r2, r3, r4, r5, r6, r7, r8⟩ := HX1.out.below hb
                   clear hb)
                | (go_at_call 96; (with_reducible refine (HBo.out _ HT3.out HC2.out HH2.out).mono ?_); rintro e w3 ⟨rfl, hb⟩
                   have HB3 := Lib.hid (bnext HB2.out hb)
                   clear hb))
              go_ret
              exact ⟨ret_err (by rw [HV.out]; rfl), HB2.out⟩
            · have hv := mtdF_range (pre := pre) H0 hin (.inr hr)
              have HV := Lib.hid (HFa.out (by rw [hv]; decide))
              rw [hv] at HV
              replace HBo := Lib.hid HBo
              clear HFa HNx hmy hny hin H0 hv
              go_wp2_with (first
                | (go_at_call 93; (with_reducible refine (HM.out _).mono ?_); rintro e w1 ⟨D1, d1, t1, rfl, hb⟩
                   have HB1 := Lib.hid (bnext (bnext HB.out HB0.out) hb)
                   have HX1 := Lib.hid (HX.out.below hb)
                   have HC1 := Lib.hid (HRC.out.below hb)
                   have HH1 := Lib.hid (HandRow.below HRH.out hb)
                   have HT2 := Lib.hid (HT1.out.below hb)
                   obtain ⟨q0, q1, q2, q3, q4, q5, q6, q7, q8⟩ := HX.out.below hb
                   clear hb)
                | (go_at_call 70; (with_reducible refine (HNy.out _).mono ?_); rintro e w2 ⟨rfl, rfl⟩)
                | (go_at_call 95; (with_reducible refine (HHas.out _ HB1.out q1 q2 q0).mono ?_); rintro e w2 ⟨rfl, hb⟩
                   have HB2 := Lib.hid (bnext HB1.out hb)
                   have HC2 := Lib.hid (HC1.out.below hb)
                   have HH2 := Lib.hid (HandRow.below HH1.out hb)
                   have HT3 := Lib.hid (HT2.out.below hb)
                   obtain ⟨r0, r1, r2, r3, r4, r5, r6, r7, r8⟩ := HX1.out.below hb
                   clear hb)
                | (go_at_call 96; (with_reducible refine (HBo.out _ HT3.out HC2.out HH2.out).mono ?_); rintro e w3 ⟨rfl, hb⟩
                   have HB3 := Lib.hid (bnext HB2.out hb)
                   clear hb))
              go_ret
              exact ⟨ret_err (by rw [HV.out]; rfl), HB2.out⟩
            · have hE := mtdF_rest (pre := pre) H0 hin (by omega)
              simp only [← hE] at HBo
              unfold methV at HBo
              by_cases h0 : mtdF pre y = 0
              · have HN2 := Lib.hid (HNx.out h0)
                rw [h0] at HBo
                replace HBo := Lib.hid HBo
                clear HFa HNx hmy hny hin H0 hE h0
                go_wp2_with (first
                | (go_at_call 93; (with_reducible refine (HM.out _).mono ?_); rintro e w1 ⟨D1, d1, t1, rfl, hb⟩
                   have HB1 := Lib.hid (bnext (bnext HB.out HB0.out) hb)
                   have HX1 := Lib.hid (HX.out.below hb)
                   have HC1 := Lib.hid (HRC.out.below hb)
                   have HH1 := Lib.hid (HandRow.below HRH.out hb)
                   have HT2 := Lib.hid (HT1.out.below hb)
                   obtain ⟨q0, q1, q2, q3, q4, q5, q6, q7, q8⟩ := HX.out.below hb
                   clear hb)
                | (go_at_call 70; (with_reducible refine (HNy.out _).mono ?_); rintro e w2 ⟨rfl, rfl⟩)
                | (go_at_call 95; (with_reducible refine (HHas.out _ HB1.out q1 q2 q0).mono ?_); rintro e w2 ⟨rfl, hb⟩
                   have HB2 := Lib.hid (bnext HB1.out hb)
                   have HC2 := Lib.hid (HC1.out.below hb)
                   have HH2 := Lib.hid (HandRow.below HH1.out hb)
                   have HT3 := Lib.hid (HT2.out.below hb)
                   obtain ⟨r0, r1, r2, r3, r4, r5, r6, r7, r8⟩ := HX1.out.below hb
                   clear hb)
                | (go_at_call 96; (with_reducible refine (HBo.out _ HT3.out HC2.out HH2.out).mono ?_); rintro e w3 ⟨rfl, hb⟩
                   have HB3 := Lib.hid (bnext HB2.out hb)
                   clear hb))
                go_roundw
                case rel => exact ⟨k + 1, by omega, by go_num, HN2, HB3⟩
                case measure => first | (simp [intOf]; omega) | simp [intOf]
              · have HV := Lib.hid (HFa.out h0)
                have hne : (mtdF pre y != 0) = true := by rw [bne_iff_ne]; exact h0
                replace HBo := Lib.hid HBo
                clear HFa HNx hmy hny hin H0 hE h0
                generalize mtdF pre y = ff at *
                go_wp2_with (first
                | (go_at_call 93; (with_reducible refine (HM.out _).mono ?_); rintro e w1 ⟨D1, d1, t1, rfl, hb⟩
                   have HB1 := Lib.hid (bnext (bnext HB.out HB0.out) hb)
                   have HX1 := Lib.hid (HX.out.below hb)
                   have HC1 := Lib.hid (HRC.out.below hb)
                   have HH1 := Lib.hid (HandRow.below HRH.out hb)
                   have HT2 := Lib.hid (HT1.out.below hb)
                   obtain ⟨q0, q1, q2, q3, q4, q5, q6, q7, q8⟩ := HX.out.below hb
                   clear hb)
                | (go_at_call 70; (with_reducible refine (HNy.out _).mono ?_); rintro e w2 ⟨rfl, rfl⟩)
                | (go_at_call 95; (with_reducible refine (HHas.out _ HB1.out q1 q2 q0).mono ?_); rintro e w2 ⟨rfl, hb⟩
                   have HB2 := Lib.hid (bnext HB1.out hb)
                   have HC2 := Lib.hid (HC1.out.below hb)
                   have HH2 := Lib.hid (HandRow.below HH1.out hb)
                   have HT3 := Lib.hid (HT2.out.below hb)
                   obtain ⟨r0, r1, r2, r3, r4, r5, r6, r7, r8⟩ := HX1.out.below hb
                   clear hb)
                | (go_at_call 96; (with_reducible refine (HBo.out _ HT3.out HC2.out HH2.out).mono ?_); rintro e w3 ⟨rfl, hb⟩
                   have HB3 := Lib.hid (bnext HB2.out hb)
                   clear hb))
                go_ret
                exact ⟨by rw [HV.out]; rfl, HB3.out⟩
    · obtain rfl : k = n := by omega
      have HV := Lib.hid (HT.out.all HL.out)
      go_wp2
      go_ret
      exact ⟨ret_err (by rw [HV.out]; rfl), HB.out⟩
end Go.Proofs.YtkolpbjpgobkcaaGreatDoor
namespace Go.Proofs.YtkolpbjpgobkcaaGreatDoor
open Go.ChangeShapes Go.WideShapes Go.ChangeAt Go.RowKit
set_option linter.unusedVariables false
attribute [local go_sem] eqGuard_errV_nil eqGuard_errV_iface eql_errV_nil neq_errV_nil eql_errV_form

theorem empty_not {l : List UInt8} (h : l ≠ []) : (bs l).toList.isEmpty = false := by
  rw [ByteArray.toList_eq]
  cases l with
  | nil => exact absurd rfl h
  | cons a t => rfl
theorem empty_yes {l : List UInt8} (h : l = []) : (bs l).toList.isEmpty = true := by rw [h, ByteArray.toList_eq]; rfl
set_option maxRecDepth 20000 in
set_option maxHeartbeats 4000000 in
theorem check_head (x : ClassD) (A : Option Addr) (i j : Nat) (B : Option Addr) (k l : Nat) (C : Option Addr) (m n : Nat) (w : World) (hx : x.upto 140737488351232) (h : headB_ x = false) :
    Calls Tryz.prog 62 #[classV x A i j B k l C m n] w fun e w' => e = .returned (errV (classF x)) ∧ Below w.heap.size w w' := by
  rw [classF_name h]
  have hs1 : (bs x.nm).size ≤ maxLen := by rw [bs_size]; have := hx.1; unfold maxLen; omega
  have hs2 : (bs x.su).size ≤ maxLen := by rw [bs_size]; have := hx.2.1; unfold maxLen; omega
  have hc := head_cases (c := x)
  rw [h] at hc
  simp only [Bool.false_eq_true, and_false, or_false, false_or, and_true] at hc
  clear hx h
  unfold classV
  rcases hc with h1 | ⟨h1, h2, h3⟩
  · have HN := Lib.hid (fun w => check_no (bs x.nm) w h1 hs1)
    clear h1
    go_enter Tryz.func62, Tryz.ntmps62
    go_wp2_with (first
      | (go_at_call 70; (with_reducible refine (HN.out _).mono ?_); rintro e w2 ⟨rfl, rfl⟩))
    go_ret
    exact ⟨rfl, al1 _ _⟩
  · have HN := Lib.hid (fun w => check_yes (bs x.nm) w h1 hs1)
    have HM := Lib.hid (fun w => check_no (bs x.su) w h3 hs2)
    have hne := empty_not h2
    clear h1 h2 h3
    go_enter Tryz.func62, Tryz.ntmps62
    go_wp2_with (first
      | (go_at_call 70; (with_reducible refine (HN.out _).mono ?_); rintro e w2 ⟨rfl, rfl⟩)
      | (go_at_call 70; (with_reducible refine (HM.out _).mono ?_); rintro e w2 ⟨rfl, rfl⟩))
    go_ret
    exact ⟨rfl, al1 _ _⟩

theorem rest_cases {x : ClassD} {i k m : Nat} (h : headB_ x = true) (hi : x.faces.length = i) (hk : x.fields.length = k) (hm : x.meths.length = m) :
    (firstAt faceF x.faces ≠ 0 ∧ classF x = firstAt faceF x.faces) ∨ (firstAt faceF x.faces = 0 ∧ (8 < i ∨ 8 < k ∨ 8 < m) ∧ classF x = 4) ∨
    (firstAt faceF x.faces = 0 ∧ (i ≤ 8 ∧ k ≤ 8 ∧ m ≤ 8) ∧ firstAt fieldF x.fields ≠ 0 ∧ classF x = firstAt fieldF x.fields) ∨
    (firstAt faceF x.faces = 0 ∧ (i ≤ 8 ∧ k ≤ 8 ∧ m ≤ 8) ∧ firstAt fieldF x.fields = 0 ∧ firstAt mtdF x.meths ≠ 0 ∧ classF x = firstAt mtdF x.meths) ∨
    (firstAt faceF x.faces = 0 ∧ (i ≤ 8 ∧ k ≤ 8 ∧ m ≤ 8) ∧ firstAt fieldF x.fields = 0 ∧ firstAt mtdF x.meths = 0 ∧ ((x.face = false ∧ classF x = 0) ∨ (x.face = true ∧ k = 0 ∧ classF x = 0) ∨ (x.face = true ∧ 0 < k ∧ classF x = 8))) := by
  by_cases h1 : firstAt faceF x.faces = 0
  · by_cases h2 : 8 < i ∨ 8 < k ∨ 8 < m
    · exact .inr (.inl ⟨h1, h2, classF_full h h1 (by rw [hi, hk, hm]; exact h2)⟩)
    · have h2' : ¬ (8 < x.faces.length ∨ 8 < x.fields.length ∨ 8 < x.meths.length) := by rw [hi, hk, hm]; exact h2
      have h2'' : i ≤ 8 ∧ k ≤ 8 ∧ m ≤ 8 := by omega
      by_cases h3 : firstAt fieldF x.fields = 0
      · by_cases h4 : firstAt mtdF x.meths = 0
        · refine .inr (.inr (.inr (.inr ⟨h1, h2'', h3, h4, ?_⟩)))
          rw [classF_end h h1 h2' h3 h4, hk]
          cases x.face with
          | false => exact .inl ⟨rfl, rfl⟩
          | true =>
            rcases Nat.eq_zero_or_pos k with h | h
            · exact .inr (.inl ⟨rfl, h, by rw [h]; rfl⟩)
            · exact .inr (.inr ⟨rfl, h, by have : k ≠ 0 := by omega
                                           simp [this]⟩)
        · exact .inr (.inr (.inr (.inl ⟨h1, h2'', h3, h4, classF_meth h h1 h2' h3 h4⟩)))
      · exact .inr (.inr (.inl ⟨h1, h2'', h3, classF_field h h1 h2' h3⟩))
  · exact .inl ⟨h1, classF_face h h1⟩
theorem err_zero {P : Program} {f : FuncId} {args : Array Value} {w : World} {q : Nat} (h0 : q = 0) (h : Calls P f args w fun e w' => e = .returned (errV q) ∧ Below w.heap.size w w') : Calls P f args w fun e w' => e = .returned .nilIface ∧ Below w.heap.size w w' := by
  subst h0; exact h
set_option maxRecDepth 20000 in
set_option maxHeartbeats 16000000 in
theorem check_rest (x : ClassD) (A : Option Addr) (i j : Nat) (B : Option Addr) (k l : Nat) (C : Option Addr) (m n : Nat) (w : World) (T : Tab w) (RA : StrRow w A i j x.faces) (RB : FieldRow w B k l x.fields) (RC : MethRow w C m n x.meths) (hx : x.upto 140737488351232) (hw : x.wf) (h : headB_ x = true) :
    Calls Tryz.prog 62 #[classV x A i j B k l C m n] w fun e w' => e = .returned (errV (classF x)) ∧ Below w.heap.size w w' := by
  have hli : x.faces.length = i := RA.1
  have hlk : x.fields.length = k := RB.1
  have hlm : x.meths.length = m := RC.1
  have hi2 : i ≤ 140737488351232 := by have := hx.2.2.1.2; omega
  have hk2 : k ≤ 140737488351232 := by have := hx.2.2.2.1.2; omega
  have hm2 : m ≤ 140737488351232 := by have := hx.2.2.2.2.2; omega
  have hs1 : (bs x.nm).size ≤ maxLen := by rw [bs_size]; have := hx.1; unfold maxLen; omega
  have hs2 : (bs x.su).size ≤ maxLen := by rw [bs_size]; have := hx.2.1; unfold maxLen; omega
  have hc := head_cases (c := x)
  rw [h] at hc
  simp only [Bool.true_eq_false, and_false, false_or, and_true] at hc
  have hr := rest_cases h hli hlk hlm
  have HFa := fun W R => faces_any x.faces A i j W R hi2 hx.2.2.1.1
  have HFi := fun W R => fields_any x.fields B k l W R hk2 hx.2.2.2.1.1
  have HMe := fun W T R => meths_any x.meths C m n W T R hm2 hx.2.2.2.2.1 hw
  have HB0 := Lib.hid (al1 w (.cells #[.string (bs x.nm), .string (bs x.su), .slice A i j, .bool x.face, .slice B k l, .slice C m n] 51))
  have HCB := Lib.hid (cbox_at w x A i j B k l C m n 51 (0, 0))
  have HT := Lib.hid (T.below HB0.out)
  have HRA := Lib.hid (RA.below HB0.out)
  have HRB := Lib.hid (RB.below HB0.out)
  have HRC := Lib.hid (RC.below HB0.out)
  have HN : Hid (∀ w, Calls Tryz.prog 70 #[.string (bs x.nm)] w fun e w' => e = .returned (errV 0) ∧ w = w') := by
    rcases hc with ⟨h1, _⟩ | ⟨h1, _⟩ <;> exact Lib.hid (fun w => check_yes (bs x.nm) w h1 hs1)
  clear T RA RB RC hx hw h hli hlk hlm
  generalize classF x = q at *
  generalize firstAt faceF x.faces = f1 at *
  generalize firstAt fieldF x.fields = f2 at *
  generalize firstAt mtdF x.meths = f3 at *
  unfold classV
  obtain ⟨fc, hfc⟩ : ∃ fc, fc = x.face := ⟨_, rfl⟩
  rw [← hfc] at hr
  have HFC := hfc.symm
  clear hfc
  rw [HFC] at HB0 HCB HT HRA HRB HRC ⊢
  rcases hc with ⟨h1, h2⟩ | ⟨h1, h2, h3⟩
  all_goals
    first
    | have HS := Lib.hid (fun w => check_yes (bs x.su) w h3 hs2)
    | skip
    first
    | have hne := empty_not h2
    | have hne := empty_yes h2
    clear h2 h1
    try clear h3
    rcases hr with ⟨hf1, hv⟩ | ⟨hf1, hb, hv⟩ | ⟨hf1, hb, hf2, hv⟩ | ⟨hf1, hb, hf2, hf3, hv⟩ | ⟨hf1, hb, hf2, hf3, ht⟩
    · subst hv
      have hn1 : (q != 0) = true := by rw [bne_iff_ne]; exact hf1
      have HF1 := Lib.hid HFa
      clear HFa HFi HMe hf1
      go_enter Tryz.func62, Tryz.ntmps62
      go_wp2_with (first
        | (go_at_call 70; (with_reducible refine (HN.out _).mono ?_); rintro e w9 ⟨rfl, rfl⟩)
        | (go_at_call 70; (with_reducible refine (HS.out _).mono ?_); rintro e w9 ⟨rfl, rfl⟩)
        | (go_at_call 71; (with_reducible refine (HF1.out _ HRA.out).mono ?_); rintro e w1 ⟨rfl, hb⟩
           have HB1 := Lib.hid (bnext HB0.out hb)
           have HCB1 := Lib.hid (HCB.out.below hb)
           obtain ⟨p0, p1, p2, p3, p4, p5, p6⟩ := HCB.out.below hb
           rw [HFC] at p4
           have HT1 := Lib.hid (HT.out.below hb)
           have HRB1 := Lib.hid (HRB.out.below hb)
           have HRC1 := Lib.hid (HRC.out.below hb)
           clear hb)
        | (go_at_call 72; (with_reducible refine (HF2.out _ HRB1.out).mono ?_); rintro e w2 ⟨rfl, hb⟩
           have HB2 := Lib.hid (bnext HB1.out hb)
           have HCB2 := Lib.hid (HCB1.out.below hb)
           obtain ⟨q0, q1, q2, q3, q4, q5, q6⟩ := HCB1.out.below hb
           rw [HFC] at q4
           have HT2 := Lib.hid (HT1.out.below hb)
           have HRC2 := Lib.hid (HRC1.out.below hb)
           clear hb)
        | (go_at_call 73; (with_reducible refine (HF3.out _ HT2.out HRC2.out).mono ?_); rintro e w3 ⟨rfl, hb⟩
           have HB3 := Lib.hid (bnext HB2.out hb)
           obtain ⟨r0, r1, r2, r3, r4, r5, r6⟩ := HCB2.out.below hb
           rw [HFC] at r4
           clear hb))
      go_ret
      exact ⟨rfl, HB1.out⟩
    · subst hv
      have HF1 := Lib.hid (fun W R => err_zero hf1 (HFa W R))
      clear HFa HFi HMe hf1
      rcases hb with hb | hb | hb
      all_goals
        go_enter Tryz.func62, Tryz.ntmps62
        go_wp2_with (first
          | (go_at_call 70; (with_reducible refine (HN.out _).mono ?_); rintro e w9 ⟨rfl, rfl⟩)
          | (go_at_call 70; (with_reducible refine (HS.out _).mono ?_); rintro e w9 ⟨rfl, rfl⟩)
          | (go_at_call 71; (with_reducible refine (HF1.out _ HRA.out).mono ?_); rintro e w1 ⟨rfl, hb⟩
             have HB1 := Lib.hid (bnext HB0.out hb)
             have HCB1 := Lib.hid (HCB.out.below hb)
             obtain ⟨p0, p1, p2, p3, p4, p5, p6⟩ := HCB.out.below hb
             rw [HFC] at p4
             have HT1 := Lib.hid (HT.out.below hb)
             have HRB1 := Lib.hid (HRB.out.below hb)
             have HRC1 := Lib.hid (HRC.out.below hb)
             clear hb)
          | (go_at_call 72; (with_reducible refine (HF2.out _ HRB1.out).mono ?_); rintro e w2 ⟨rfl, hb⟩
             have HB2 := Lib.hid (bnext HB1.out hb)
             have HCB2 := Lib.hid (HCB1.out.below hb)
             obtain ⟨q0, q1, q2, q3, q4, q5, q6⟩ := HCB1.out.below hb
             rw [HFC] at q4
             have HT2 := Lib.hid (HT1.out.below hb)
             have HRC2 := Lib.hid (HRC1.out.below hb)
             clear hb)
          | (go_at_call 73; (with_reducible refine (HF3.out _ HT2.out HRC2.out).mono ?_); rintro e w3 ⟨rfl, hb⟩
             have HB3 := Lib.hid (bnext HB2.out hb)
             obtain ⟨r0, r1, r2, r3, r4, r5, r6⟩ := HCB2.out.below hb
             rw [HFC] at r4
             clear hb))
        all_goals
          go_ret
          exact ⟨rfl, HB1.out⟩
    · subst hv
      have hn2 : (q != 0) = true := by rw [bne_iff_ne]; exact hf2
      have HF1 := Lib.hid (fun W R => err_zero hf1 (HFa W R))
      have HF2 := Lib.hid HFi
      clear HFa HFi HMe hf1 hf2
      obtain ⟨g1, g2, g3⟩ := hb
      go_enter Tryz.func62, Tryz.ntmps62
      go_wp2_with (first
        | (go_at_call 70; (with_reducible refine (HN.out _).mono ?_); rintro e w9 ⟨rfl, rfl⟩)
        | (go_at_call 70; (with_reducible refine (HS.out _).mono ?_); rintro e w9 ⟨rfl, rfl⟩)
        | (go_at_call 71; (with_reducible refine (HF1.out _ HRA.out).mono ?_); rintro e w1 ⟨rfl, hb⟩
           have HB1 := Lib.hid (bnext HB0.out hb)
           have HCB1 := Lib.hid (HCB.out.below hb)
           obtain ⟨p0, p1, p2, p3, p4, p5, p6⟩ := HCB.out.below hb
           rw [HFC] at p4
           have HT1 := Lib.hid (HT.out.below hb)
           have HRB1 := Lib.hid (HRB.out.below hb)
           have HRC1 := Lib.hid (HRC.out.below hb)
           clear hb)
        | (go_at_call 72; (with_reducible refine (HF2.out _ HRB1.out).mono ?_); rintro e w2 ⟨rfl, hb⟩
           have HB2 := Lib.hid (bnext HB1.out hb)
           have HCB2 := Lib.hid (HCB1.out.below hb)
           obtain ⟨q0, q1, q2, q3, q4, q5, q6⟩ := HCB1.out.below hb
           rw [HFC] at q4
           have HT2 := Lib.hid (HT1.out.below hb)
           have HRC2 := Lib.hid (HRC1.out.below hb)
           clear hb)
        | (go_at_call 73; (with_reducible refine (HF3.out _ HT2.out HRC2.out).mono ?_); rintro e w3 ⟨rfl, hb⟩
           have HB3 := Lib.hid (bnext HB2.out hb)
           obtain ⟨r0, r1, r2, r3, r4, r5, r6⟩ := HCB2.out.below hb
           rw [HFC] at r4
           clear hb))
      all_goals
        go_ret
        exact ⟨rfl, HB2.out⟩
    · subst hv
      have hn3 : (q != 0) = true := by rw [bne_iff_ne]; exact hf3
      have HF1 := Lib.hid (fun W R => err_zero hf1 (HFa W R))
      have HF2 := Lib.hid (fun W R => err_zero hf2 (HFi W R))
      have HF3 := Lib.hid HMe
      clear HFa HFi HMe hf1 hf2 hf3
      obtain ⟨g1, g2, g3⟩ := hb
      go_enter Tryz.func62, Tryz.ntmps62
      go_wp2_with (first
        | (go_at_call 70; (with_reducible refine (HN.out _).mono ?_); rintro e w9 ⟨rfl, rfl⟩)
        | (go_at_call 70; (with_reducible refine (HS.out _).mono ?_); rintro e w9 ⟨rfl, rfl⟩)
        | (go_at_call 71; (with_reducible refine (HF1.out _ HRA.out).mono ?_); rintro e w1 ⟨rfl, hb⟩
           have HB1 := Lib.hid (bnext HB0.out hb)
           have HCB1 := Lib.hid (HCB.out.below hb)
           obtain ⟨p0, p1, p2, p3, p4, p5, p6⟩ := HCB.out.below hb
           rw [HFC] at p4
           have HT1 := Lib.hid (HT.out.below hb)
           have HRB1 := Lib.hid (HRB.out.below hb)
           have HRC1 := Lib.hid (HRC.out.below hb)
           clear hb)
        | (go_at_call 72; (with_reducible refine (HF2.out _ HRB1.out).mono ?_); rintro e w2 ⟨rfl, hb⟩
           have HB2 := Lib.hid (bnext HB1.out hb)
           have HCB2 := Lib.hid (HCB1.out.below hb)
           obtain ⟨q0, q1, q2, q3, q4, q5, q6⟩ := HCB1.out.below hb
           rw [HFC] at q4
           have HT2 := Lib.hid (HT1.out.below hb)
           have HRC2 := Lib.hid (HRC1.out.below hb)
           clear hb)
        | (go_at_call 73; (with_reducible refine (HF3.out _ HT2.out HRC2.out).mono ?_); rintro e w3 ⟨rfl, hb⟩
           have HB3 := Lib.hid (bnext HB2.out hb)
           obtain ⟨r0, r1, r2, r3, r4, r5, r6⟩ := HCB2.out.below hb
           rw [HFC] at r4
           clear hb))
      all_goals
        go_ret
        exact ⟨rfl, HB3.out⟩
    · have HF1 := Lib.hid (fun W R => err_zero hf1 (HFa W R))
      have HF2 := Lib.hid (fun W R => err_zero hf2 (HFi W R))
      have HF3 := Lib.hid (fun W T R => err_zero hf3 (HMe W T R))
      clear HFa HFi HMe hf1 hf2 hf3
      obtain ⟨g1, g2, g3⟩ := hb
      rcases ht with ⟨e1, e2⟩ | ⟨e1, e3, e2⟩ | ⟨e1, e3, e2⟩
      all_goals
        subst e1 e2
        try subst e3
        go_enter Tryz.func62, Tryz.ntmps62
        go_wp2_with (first
          | (go_at_call 70; (with_reducible refine (HN.out _).mono ?_); rintro e w9 ⟨rfl, rfl⟩)
          | (go_at_call 70; (with_reducible refine (HS.out _).mono ?_); rintro e w9 ⟨rfl, rfl⟩)
          | (go_at_call 71; (with_reducible refine (HF1.out _ HRA.out).mono ?_); rintro e w1 ⟨rfl, hb⟩
             have HB1 := Lib.hid (bnext HB0.out hb)
             have HCB1 := Lib.hid (HCB.out.below hb)
             obtain ⟨p0, p1, p2, p3, p4, p5, p6⟩ := HCB.out.below hb
             rw [HFC] at p4
             have HT1 := Lib.hid (HT.out.below hb)
             have HRB1 := Lib.hid (HRB.out.below hb)
             have HRC1 := Lib.hid (HRC.out.below hb)
             clear hb)
          | (go_at_call 72; (with_reducible refine (HF2.out _ HRB1.out).mono ?_); rintro e w2 ⟨rfl, hb⟩
             have HB2 := Lib.hid (bnext HB1.out hb)
             have HCB2 := Lib.hid (HCB1.out.below hb)
             obtain ⟨q0, q1, q2, q3, q4, q5, q6⟩ := HCB1.out.below hb
             rw [HFC] at q4
             have HT2 := Lib.hid (HT1.out.below hb)
             have HRC2 := Lib.hid (HRC1.out.below hb)
             clear hb)
          | (go_at_call 73; (with_reducible refine (HF3.out _ HT2.out HRC2.out).mono ?_); rintro e w3 ⟨rfl, hb⟩
             have HB3 := Lib.hid (bnext HB2.out hb)
             obtain ⟨r0, r1, r2, r3, r4, r5, r6⟩ := HCB2.out.below hb
             rw [HFC] at r4
             clear hb))
        all_goals
          go_ret
          exact ⟨rfl, HB3.out⟩
theorem class_checks : ClassChecks := fun x A i j B k l C m n w T RA RB RC _ _ _ hx hw => by
  cases h : headB_ x with
  | false => exact check_head x A i j B k l C m n w hx h
  | true => exact check_rest x A i j B k l C m n w T RA RB RC hx hw h
end Go.Proofs.YtkolpbjpgobkcaaGreatDoor
