/- The walk of coffeehouselaw6.FlowAhead. -/
import Derived.Test.YtjfcmkjlmkgioaaDoorFlN
import Derived.Test.YtjfcmkjlmkgioaaDoorFlX
import Derived.Test.YtjfcmkjlmkgioaaDoorNamed
namespace Go.Proofs.YtjfcmkjlmkgioaaDoor
open Go.ChangeShapes Go.WideShapes Go.ChangeAt Go.RowKit
set_option linter.unusedVariables false
attribute [local go_sem] eqGuard_errV_nil eqGuard_errV_iface eql_errV_nil neq_errV_nil eql_errV_form

/-- An instruction whose target lies one later; code with a Nop in front. -/
def shiftI (x : InsD) : InsD := if jumpB x.op then ⟨x.op, x.a + 1, x.b, x.ty, x.cl, x.nm⟩ else x
def frontI : InsD := ⟨1, 0, 0, [], [], []⟩
def aheadL (l : List InsD) : List InsD := frontI :: l.map shiftI
theorem shift_op (x : InsD) : (shiftI x).op = x.op := by unfold shiftI; split <;> rfl
theorem shift_a {x : InsD} (h : jumpB x.op = true) : (shiftI x).a = x.a + 1 := by unfold shiftI; rw [if_pos h]
theorem shift_wf {x : InsD} (h : x.wf) (hj : jumpB x.op = true → 0 ≤ x.a ∧ x.a ≤ 40) : (shiftI x).wf := by
  unfold shiftI
  split
  · rename_i hb
    obtain ⟨h1, h2, h3⟩ := h
    have := hj hb
    exact ⟨h1, ⟨by show _ ≤ x.a + 1; omega, by show x.a + 1 ≤ _; omega⟩, h3⟩
  · exact h
theorem shift_fits {x : InsD} (h : x.fits) : (shiftI x).fits := by
  unfold shiftI
  split <;> exact h
theorem shift_good {x : InsD} (h : x.good) (ha : jumpB x.op = true → x.a ≤ 39) : (shiftI x).good := by
  refine ⟨shift_wf h.1 (good_jump h.2), ?_⟩
  by_cases hj : jumpB x.op = true
  · have hb := good_jump h.2 hj
    have ha := ha hj
    obtain ⟨k, hx, h0, hk, ho, hr, ht, hn⟩ := insF_zero h.2
    have hop : x.op = 12 ∨ x.op = 13 ∨ x.op = 14 := of_decide_eq_true hj
    unfold shiftI
    rw [if_pos hj]
    obtain ⟨op, a, b, ty, cl, nm⟩ := x
    simp only at hop hx hb ha ho hr ht hn
    subst hx
    have hk3 : k = 12 ∨ k = 13 ∨ k = 14 := by omega
    have f0 : (opF k).testBit 0 = true := by rcases hk3 with rfl | rfl | rfl <;> decide
    unfold insF
    simp only [Int.toNat_natCast]
    rw [if_neg (by omega), if_neg, if_neg, if_neg]
    · rw [Bool.not_eq_false, Bool.and_eq_true]
      exact ⟨ht, hn⟩
    · unfold rangeB at hr ⊢
      simp only at hr ⊢
      rw [if_neg (by omega), if_neg (by omega), if_neg (by omega)] at hr ⊢
      split
      · rename_i h12
        rw [if_pos h12, Bool.and_eq_true] at hr
        rw [Bool.not_eq_false, Bool.and_eq_true]
        exact ⟨decide_eq_true (by omega), hr.2⟩
      · rw [if_pos (by omega)]
        rw [Bool.not_eq_false]
        exact decide_eq_true (by omega)
    · unfold onlyB at ho ⊢
      simp only [f0, Bool.or_true, Bool.true_and] at ho ⊢
      simp only [Bool.not_eq_false]
      exact ho
  · unfold shiftI
    rw [if_neg hj]
    exact h.2
theorem front_good : frontI.good := ⟨by refine ⟨?_, ?_, ?_⟩ <;> (unfold i64B frontI; decide), by decide⟩
theorem ahead_len (l : List InsD) : (aheadL l).length = l.length + 1 := by simp [aheadL]
theorem ahead_zero (l : List InsD) : (aheadL l).getD 0 zeroI = frontI := rfl
theorem ahead_at {l : List InsD} {k : Nat} (h : k < l.length) : (aheadL l).getD (k + 1) zeroI = shiftI l[k] := by
  unfold aheadL
  rw [List.getD_eq_getElem?_getD, List.getElem?_cons_succ, List.getElem?_map, List.getElem?_eq_getElem h]
  rfl
theorem ahead_ok {l : List InsD} (hl : FlowOk l) (h40 : l.length < 40) : FlowOk (aheadL l) := by
  obtain ⟨h1, h2, h3, h4, h5⟩ := hl
  refine ⟨by rw [ahead_len]; omega, fun y hy => ?_, fun y hy hj => ?_, by rw [ahead_len]; omega, ?_⟩
  · rcases List.mem_cons.1 hy with rfl | hy
    · exact front_good
    · obtain ⟨x, hx, rfl⟩ := List.mem_map.1 hy
      exact shift_good (h2 x hx) fun hj => by have := h3 x hx hj; omega
  · rw [ahead_len]
    rcases List.mem_cons.1 hy with rfl | hy
    · cases hj
    · obtain ⟨x, hx, rfl⟩ := List.mem_map.1 hy
      rw [shift_op] at hj
      rw [shift_a hj]
      have := h3 x hx hj
      omega
  · rw [ahead_len, show l.length + 1 - 1 = (l.length - 1) + 1 by omega, ahead_at (by omega), shift_op]
    rw [List.getD_eq_getElem?_getD, List.getElem?_eq_getElem (by omega)] at h5
    exact h5
theorem ahead_aft0 (l : List InsD) : aftM (aheadL l) 0 = [1] := by
  unfold aftM
  rw [ahead_zero]
  rfl
theorem ahead_aft {l : List InsD} (hl : FlowOk l) {k : Nat} (hk : k < l.length) : aftM (aheadL l) (k + 1) = (aftM l k).map (· + 1) := by
  have hj := hl.jump _ (List.getElem_mem hk)
  rw [aft_at hk]
  unfold aftM
  rw [ahead_at hk]
  generalize l[k] = x at *
  unfold nextM
  rw [shift_op, List.map_append]
  congr 1
  · split <;> rfl
  · cases hb : jumpB x.op with
    | false => simp
    | true =>
      have := hj hb
      rw [shift_a hb]
      have e : decide (x.a + 1 = ((k + 1 : Nat) : Int) + 1) = decide (x.a = (k : Int) + 1) := by
        rw [Bool.eq_iff_iff, decide_eq_true_eq, decide_eq_true_eq]; omega
      rw [e]
      split
      · simp; omega
      · rfl
theorem Path.withinQ {l : List InsD} {k i : Nat} (hp : Path l k i) (f : Nat → Prop) (h0 : f k) (hc : ∀ t, f t → ∀ j ∈ aftM l t, f j) : f i := by
  induction hp with
  | here k => exact h0
  | step h1 _ ih => exact ih (hc _ h0 _ h1)
theorem ahead_path {l : List InsD} (hl : FlowOk l) (i : Nat) : Path (aheadL l) 0 i ↔ i = 0 ∨ ∃ j, i = j + 1 ∧ Path l 0 j := by
  have hpos := hl.2.2.2.1
  constructor
  · intro h
    refine h.withinQ (fun i => i = 0 ∨ ∃ j, i = j + 1 ∧ Path l 0 j) (.inl rfl) fun t ht j hj => ?_
    rcases ht with rfl | ⟨k, rfl, hk⟩
    · rw [ahead_aft0] at hj
      obtain rfl := List.mem_singleton.1 hj
      exact .inr ⟨0, rfl, .here _⟩
    · rw [ahead_aft hl (hk.lt hl hpos)] at hj
      obtain ⟨m, hm, rfl⟩ := List.mem_map.1 hj
      exact .inr ⟨m, rfl, hk.more hm⟩
  · rintro (rfl | ⟨j, rfl, hj⟩)
    · exact .here _
    · refine (hj.withinQ (fun j => Path (aheadL l) 0 (j + 1) ∧ j < l.length) ⟨?_, hpos⟩ fun t ht m hm => ⟨?_, aft_lt hl ht.2 m hm⟩).1
      · exact (Path.here 0).more (by rw [ahead_aft0]; simp)
      · exact ht.1.more (by rw [ahead_aft hl ht.2]; exact List.mem_map.2 ⟨m, hm, rfl⟩)
theorem ahead_reach {l : List InsD} (hl : FlowOk l) {xs ys : List Nat} (hx : ReachL l xs) (hy : ReachL (aheadL l) ys) : ys = 0 :: xs.map (· + 1) := by
  obtain ⟨g, hg, rfl⟩ := hy
  rw [ahead_len] at hg ⊢
  have h0 : g 0 = true := (hg 0 (by omega)).2 (.here _)
  rw [List.range_succ_eq_map, List.filter_cons_of_pos h0, List.filter_map]
  congr 2
  exact hx.of fun i hi => by
    show g (i + 1) = true ↔ _
    rw [hg (i + 1) (by omega), ahead_path hl]
    constructor
    · rintro (h | ⟨j, h, hj⟩)
      · omega
      · obtain rfl : i = j := by omega
        exact hj
    · intro h; exact .inr ⟨i, rfl, h⟩
theorem front_lit (w : World) (base : Nat) (hb : base ≤ w.heap.size) (l : List InsD) : (w.alloc (.cells #[.int .i64 1, .int .i64 0, .int .i64 0, .string ⟨#[]⟩, .string ⟨#[]⟩, .string ⟨#[]⟩] 44)).ownsRow base 44 6 (.slice (some ⟨w.heap.size, 0, none⟩) 1 1) (aheadL (l.take 0)).length ((aheadL (l.take 0)).flatMap insC) :=
  World.ownsRow_lit (base := base) (e := 44) (size := 6) w #[.int .i64 1, .int .i64 0, .int .i64 0, .string ⟨#[]⟩, .string ⟨#[]⟩, .string ⟨#[]⟩] 1 hb (by decide) rfl
theorem ahead_next {l : List InsD} {j : Nat} (h : j < l.length) : aheadL (l.take j) ++ [shiftI l[j]] = aheadL (l.take (j + 1)) := by
  rw [List.take_succ_eq_append_getElem h, aheadL, aheadL, List.map_append]
  rfl
theorem lit_second (w : World) (o : Obj) (x : InsD) (t : TypeId) (f : Nat × Nat) : InsRow ((w.alloc o).alloc (.cells #[.int .i64 x.op, .int .i64 x.a, .int .i64 x.b, .string (bs x.ty), .string (bs x.cl), .string (bs x.nm)] t f)) (some ⟨w.heap.size + 1, 0, none⟩) 1 1 [x] := by
  have := InsRow.lit (w.alloc o) x t f
  rwa [show (w.alloc o).heap.size = w.heap.size + 1 by simp] at this
theorem reach_rowN {w w' : World} {l : List InsD} {xs : List Nat} {e : Ending} {N : Nat} (h : ReachSays w l xs e w') (h0 : flowF l = 0) (hN : xs.length = N) :
    ∃ A c, e = .returned (.tuple #[.slice A N c, .nilIface]) ∧ Row w' A N c (xs.map natV) ∧ Below w.heap.size w w' := by
  subst hN
  exact reach_row h h0
def wantL (xs : List Nat) (j : Nat) : List Nat := 0 :: (xs.take j).map (· + 1)
theorem want_next {xs : List Nat} {j : Nat} (h : j < xs.length) : wantL xs j ++ [xs[j] + 1] = wantL xs (j + 1) := by
  unfold wantL
  rw [List.take_succ_eq_append_getElem h, List.map_append]
  rfl
theorem want_len (xs : List Nat) (j : Nat) (h : j ≤ xs.length) : (wantL xs j).length = j + 1 := by
  unfold wantL
  simp
  omega
theorem want_all (xs : List Nat) : wantL xs xs.length = 0 :: xs.map (· + 1) := by
  unfold wantL
  rw [List.take_of_length_le (Nat.le_refl _)]
theorem want_start (w : World) (xs : List Nat) (e : TypeId) : (w.alloc (.cells #[.int .i64 0] e)).ownsRow w.heap.size e 1 (.slice (some ⟨w.heap.size, 0, none⟩) 1 1) (wantL xs 0).length ((wantL xs 0).map natV) := own_nat1 w 0 w.heap.size (Nat.le_refl _) e
theorem own_rowN {w : World} {base n N : Nat} {e : TypeId} {v : Value} {xs : List Value} (h : w.ownsRow base e 1 v n xs) (hN : n = N) : ∃ A c, v = .slice A N c ∧ Row w A N c xs := by
  subst hN
  obtain ⟨A, c, rfl, hr, _⟩ := own_row h
  exact ⟨A, c, rfl, hr⟩
theorem ahead_take (l : List InsD) (j : Nat) (h : j ≤ l.length) : (aheadL (l.take j)).length = j + 1 := by rw [ahead_len, List.length_take]; omega
set_option maxRecDepth 20000 in
set_option maxHeartbeats 2000000 in
theorem ahead_bad (l : List InsD) (A : Option Addr) (n c : Nat) (w : World) (T : Tab w) (R : InsRow w A n c l) (hw : ∀ x ∈ l, x.wf) (hf : ∀ x ∈ l, x.fits) (h0 : flowF l ≠ 0) :
    Calls Tryd.prog 7 #[.slice A n c] w fun e w' => e = .returned (.bool true) ∧ Below w.heap.size w w' := by
  obtain ⟨xs, hxs⟩ := reach_exists l
  have HNa := Lib.hid named_any
  have HRe := Lib.hid ((reach_any l xs hxs A n c w T R hw hf).mono fun e w' h => reach_fails h h0)
  have hne : (flowF l != 0) = true := by rw [bne_iff_ne]; exact h0
  clear T R hw hf h0 hxs
  generalize flowF l = q at *
  go_enter Tryd.func7, Tryd.ntmps7
  go_wp2_with (first
    | (go_at_call 19; (with_reducible refine (HNa.out _).mono ?_); rintro e w1 ⟨rfl, rfl⟩)
    | (go_at_call 12; (with_reducible refine HRe.out.mono ?_); rintro e w2 ⟨rfl, hb⟩
       have HB2 := Lib.hid hb
       clear hb))
  go_ret
  exact ⟨rfl, HB2.out⟩
set_option maxRecDepth 20000 in
set_option maxHeartbeats 2000000 in
theorem ahead_full (l : List InsD) (A : Option Addr) (n c : Nat) (w : World) (T : Tab w) (R : InsRow w A n c l) (hw : ∀ x ∈ l, x.wf) (hf : ∀ x ∈ l, x.fits) (h0 : flowF l = 0) (h40 : 40 ≤ n) :
    Calls Tryd.prog 7 #[.slice A n c] w fun e w' => e = .returned (.bool true) ∧ Below w.heap.size w w' := by
  obtain ⟨xs, hxs⟩ := reach_exists l
  have HNa := Lib.hid named_any
  have HRe := Lib.hid ((reach_any l xs hxs A n c w T R hw hf).mono fun e w' h => reach_row h h0)
  clear T R hw hf h0 hxs
  go_enter Tryd.func7, Tryd.ntmps7
  go_wp2_with (first
    | (go_at_call 19; (with_reducible refine (HNa.out _).mono ?_); rintro e w1 ⟨rfl, rfl⟩)
    | (go_at_call 12; (with_reducible refine HRe.out.mono ?_); rintro e w2 ⟨A2, c2, rfl, hr, hb⟩
       have HB2 := Lib.hid hb
       clear hb hr))
  go_ret
  exact ⟨rfl, HB2.out⟩
set_option maxRecDepth 20000 in
set_option maxHeartbeats 4000000 in
theorem ahead_good (l : List InsD) (A : Option Addr) (n c : Nat) (w : World) (T : Tab w) (R : InsRow w A n c l) (hw : ∀ x ∈ l, x.wf) (hf : ∀ x ∈ l, x.fits) (h0 : flowF l = 0) (h40 : n < 40) :
    Calls Tryd.prog 7 #[.slice A n c] w fun e w' => e = .returned (.bool true) ∧ Below w.heap.size w w' := by
  have hl : l.length = n := R.1
  subst hl
  have hok := (flowF_ok hw).1 h0
  have hoka := ahead_ok hok h40
  have hwa : ∀ x ∈ aheadL l, x.wf := fun x hx => (hoka.2.1 x hx).1
  have h0a := (flowF_ok hwa).2 hoka
  obtain ⟨xs, hxs⟩ := reach_exists l
  obtain ⟨ys, hys⟩ := reach_exists (aheadL l)
  obtain rfl := ahead_reach hok hxs hys
  have hx40 : xs.length ≤ 40 := Nat.le_trans hxs.length hok.1
  have HNa := Lib.hid named_any
  have HR1 := Lib.hid ((reach_any l xs hxs A l.length c w T R hw hf).mono fun e w' h => reach_row h h0)
  have HR2 := Lib.hid (fun A c W T R => (reach_any (aheadL l) _ hys A (l.length + 1) c W T R hwa (fun x hx => good_fits (hoka.2.1 x hx))).mono fun e w' h => reach_rowN (N := xs.length + 1) h h0a (by simp))
  have HIx := Lib.hid (fun A B c d W R S => ints_same A B (xs.length + 1) c d (0 :: xs.map (· + 1)) W R S (by omega))
  have HX := Lib.hid hxs
  have HL := Lib.hid hok
  have HT := Lib.hid T
  have HR := Lib.hid R
  clear T R hw hf h0 hok hoka hwa h0a hxs hys
  go_enter Tryd.func7, Tryd.ntmps7
  go_wp2_with (first
    | (go_at_call 19; (with_reducible refine (HNa.out _).mono ?_); rintro e w1 ⟨rfl, rfl⟩)
    | (go_at_call 12; (with_reducible refine HR1.out.mono ?_); rintro e w2 ⟨A2, c2, rfl, hr, hb⟩
       have HX2 := Lib.hid hr
       have HB2 := Lib.hid hb
       have HL2 := Lib.hid (HR.out.below hb)
       have HO2 := Lib.hid (front_lit w2 _ (Nat.le_refl _) l)
       clear hb hr))
  go_loopw [6, 7, 8] (fun m i _ wr => ∃ j : Nat, j ≤ l.length ∧ i = .int .i64 j ∧ Hid (wr.ownsRow w2.heap.size 44 6 m (aheadL (l.take j)).length ((aheadL (l.take j)).flatMap insC)) ∧ Hid (Below w2.heap.size w2 wr)) (fun _ i _ _ => l.length - (intOf i).toNat)
  case atStart => exact ⟨0, Nat.zero_le _, rfl, HO2, Lib.hid (al1 _ _)⟩
  case round =>
    obtain ⟨j, hj, rfl, HO, HB⟩ := hrel
    by_cases hlt : j < l.length
    · obtain ⟨b1, o1, rfl, hb1, hx1⟩ := (HL2.out.below HB.out).at_ hlt
      have hjx := HL.out.jump _ (List.getElem_mem hlt)
      have hlen := ahead_take l j hj
      have HN := Lib.hid (ahead_next hlt)
      have HJ := fun w => rjumps_any l[j].op w
      have hsz := HB.out.size
      generalize hP : aheadL (l.take j) = ps at *
      generalize hQ : aheadL (l.take (j + 1)) = qs at *
      have HQ := Lib.hid hQ
      clear hP hQ
      unfold shiftI at HN
      generalize l[j] = x at *
      obtain ⟨xo, xa, xb, xt, xc, xn⟩ := x
      obtain ⟨c0, c1, c2', c3, c4, c5⟩ := hx1
      simp only at HJ hjx HN
      cases hjb : jumpB xo with
      | false =>
        rw [hjb] at HJ HN
        replace HJ := Lib.hid HJ
        replace HN := HN.out
        rw [if_neg (by simp)] at HN
        replace HN := Lib.hid HN
        clear hjx
        go_wp2_with (first
          | (go_at_call 20; (with_reducible refine (HJ.out _).mono ?_); rintro e w3 ⟨rfl, rfl⟩)
          | (at_builtin; refine wpList_ins rfl (.tmp 49) (.tmp 51) rfl w2.heap.size _ ps [⟨xo, xa, xb, xt, xc, xn⟩] rfl ((HO.out.alloc _).alloc _) _ 1 1 rfl (lit_second _ _ ⟨xo, xa, xb, xt, xc, xn⟩ _ _) (by decide) (by rw [hlen]; omega) (by simp; omega) ?_
             intro v4 w4 hv hb
             rw [HN.out] at hv
             have HV4 := Lib.hid hv
             have HB4 := Lib.hid (((HB.out.alloc hsz _).alloc (by simp; omega) _).trans hb)
             clear hv hb))
        go_round
        case rel => exact ⟨j + 1, by omega, by go_num, by rw [HQ.out]; exact HV4, HB4⟩
        case measure => first | (simp [intOf]; omega) | simp [intOf]
      | true =>
        rw [hjb] at HJ HN
        replace HJ := Lib.hid HJ
        replace HN := HN.out
        rw [if_pos rfl] at HN
        replace HN := Lib.hid HN
        have hja := hjx hjb
        clear hjx
        go_wp2_with (first
          | (go_at_call 20; (with_reducible refine (HJ.out _).mono ?_); rintro e w3 ⟨rfl, rfl⟩)
          | (at_builtin; refine wpList_ins rfl (.tmp 49) (.tmp 51) rfl w2.heap.size _ ps [⟨xo, xa + 1, xb, xt, xc, xn⟩] rfl ((HO.out.alloc _).alloc _) _ 1 1 rfl (lit_second _ _ ⟨xo, xa + 1, xb, xt, xc, xn⟩ _ _) (by decide) (by rw [hlen]; omega) (by simp; omega) ?_
             intro v4 w4 hv hb
             rw [HN.out] at hv
             have HV4 := Lib.hid hv
             have HB4 := Lib.hid (((HB.out.alloc hsz _).alloc (by simp; omega) _).trans hb)
             clear hv hb))
        go_round
        case rel => exact ⟨j + 1, by omega, by go_num, by rw [HQ.out]; exact HV4, HB4⟩
        case measure => first | (simp [intOf]; omega) | simp [intOf]
    · obtain rfl : j = l.length := by omega
      have HO3 := HO.out
      rw [List.take_of_length_le (Nat.le_refl _)] at HO3
      obtain ⟨A3, c3, rfl, hr⟩ := own_ins HO3
      rw [ahead_len] at hr
      have HM3 := Lib.hid hr
      have HX3 := Lib.hid (HX2.out.below HB.out)
      have HB3 := Lib.hid (bnext HB2.out HB.out)
      have hlen := ahead_len l
      clear HO3 hr HO hlt hj HO2
      generalize (aheadL l).length = q at *
      subst hlen
      go_wp2_with (first
        | (go_at_call 12; (with_reducible refine (HR2.out _ _ _ (HT.out.below HB3.out) HM3.out).mono ?_); rintro e w5 ⟨A5, c5, rfl, hr, hb⟩
           have HY5 := Lib.hid hr
           have HX5 := Lib.hid (HX3.out.below hb)
           have HB5 := Lib.hid (bnext HB3.out hb)
           clear hb hr))
      go_loopw [11, 12] (fun v i wr => ∃ j : Nat, j ≤ xs.length ∧ i = .int .i64 j ∧ Hid (wr.ownsRow w5.heap.size 3 1 v (wantL xs j).length ((wantL xs j).map natV)) ∧ Hid (Below w5.heap.size w5 wr)) (fun _ i _ => xs.length - (intOf i).toNat)
      case atStart => exact ⟨0, Nat.zero_le _, rfl, Lib.hid (want_start w5 xs _), Lib.hid (al1 _ _)⟩
      case round =>
        obtain ⟨j, hj, rfl, HO, HB⟩ := hrel
        by_cases hlt : j < xs.length
        · obtain ⟨b1, o1, u1, rfl, hb1, hu1, hc1⟩ := (HX5.out.below HB.out).at_ hlt
          obtain rfl : natV xs[j] = u1 := by simpa [hlt] using hu1
          have htn := ((HX.out.mem _).1 (List.getElem_mem hlt)).1
          have hlen := want_len xs j hj
          have HN := Lib.hid (want_next hlt)
          have hsz := HB.out.size
          clear hu1
          generalize hP : wantL xs j = ps at *
          generalize hQ : wantL xs (j + 1) = qs at *
          have HQ := Lib.hid hQ
          clear hP hQ
          generalize xs[j] = t at *
          unfold natV at hc1
          have hwr : IntKind.i64.wrap ((t : Int) + 1) = (t : Int) + 1 := by rw [IntKind.wrap_i64]; omega
          go_wp2_with (first
            | (at_builtin; refine wpList_nats rfl (.tmp 65) (.tmp 71) rfl w5.heap.size _ ps [t + 1] rfl (HO.out.alloc _) _ 1 1 rfl (Row.natI _ (by omega) _ _) (by decide) (by rw [hlen]; omega) (by simp; omega) ?_
               intro v6 w6 hv hb
               rw [HN.out] at hv
               have HV6 := Lib.hid hv
               have HB6 := Lib.hid ((HB.out.alloc hsz _).trans hb)
               clear hv hb))
          go_round
          case rel => exact ⟨j + 1, by omega, by go_num, by rw [HQ.out]; exact HV6, HB6⟩
          case measure => first | (simp [intOf]; omega) | simp [intOf]
        · obtain rfl : j = xs.length := by omega
          obtain ⟨A6, c6, rfl, hr⟩ := own_rowN HO.out (want_len xs xs.length (Nat.le_refl _))
          rw [want_all] at hr
          have HW6 := Lib.hid hr
          have HY6 := Lib.hid (HY5.out.below HB.out)
          have HB6 := Lib.hid (bnext HB5.out HB.out)
          clear hr HO
          go_wp2_with (first
            | (go_at_call 17; (with_reducible refine (HIx.out _ _ _ _ _ HY6.out HW6.out).mono ?_); rintro e w7 ⟨rfl, hb⟩
               have HB7 := Lib.hid (bnext HB6.out hb)
               clear hb))
          go_ret
          exact ⟨rfl, HB7.out⟩
theorem flowAhead_walk (l : List InsD) (A : Option Addr) (n c : Nat) (w : World) (T : Tab w) (R : InsRow w A n c l) (hw : ∀ x ∈ l, x.wf) (hf : ∀ x ∈ l, x.fits) :
    Calls Tryd.prog 7 #[.slice A n c] w fun e w' => e = .returned (.bool true) ∧ Below w.heap.size w w' := by
  by_cases h0 : flowF l = 0
  · by_cases h40 : n < 40
    · exact ahead_good l A n c w T R hw hf h0 h40
    · exact ahead_full l A n c w T R hw hf h0 (by omega)
  · exact ahead_bad l A n c w T R hw hf h0
end Go.Proofs.YtjfcmkjlmkgioaaDoor
