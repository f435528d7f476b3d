/- The walk of coffeehouselaw6.FindOwn, from what packages world and find say. -/
import Derived.Test.YtkolpbjpgobkcaaDoorFiK
import Derived.Test.YtkolpbjpgobkcaaDoorGV
import Derived.Test.YtkolpbjpgobkcaaDoorWoH
import Derived.Test.YtkolpbjpgobkcaaDoorNamed
namespace Go.Proofs.YtkolpbjpgobkcaaDoor
open Go.ChangeShapes Go.WideShapes Go.ChangeAt Go.RowKit
set_option linter.unusedVariables false
attribute [local go_sem] eqGuard_errV_nil eqGuard_errV_iface eql_errV_nil neq_errV_nil eql_errV_form

theorem meth_own {c : ClassD} (h : classF c = 0) {u : Nat} (hu : u < c.meths.length) : methIn c.meths[u].nm c.meths[u].ty c = some c.meths[u] := by
  obtain ⟨_, _, _, _, h5, _⟩ := classF_zero.1 h
  unfold methIn
  rw [List.find?_eq_some_iff_getElem]
  refine ⟨by simp, u, hu, rfl, fun j hj => ?_⟩
  have h6 := firstAt_all h5 u hu
  unfold mtdF at h6
  split at h6
  · cases h6
  · split at h6
    · cases h6
    · rename_i h7
      have h8 : (c.meths[j].nm == c.meths[u].nm && c.meths[j].ty == c.meths[u].ty) ≠ true := fun e => h7 (List.any_eq_true.2 ⟨c.meths[j], by
        rw [List.mem_take_iff_getElem]
        exact ⟨j, by omega, rfl⟩, e⟩)
      cases hh : (c.meths[j].nm == c.meths[u].nm && c.meths[j].ty == c.meths[u].ty) with
      | true => exact absurd hh h8
      | false => rfl
theorem found_self {l : List ClassD} (hV : Valid l) {c : ClassD} (hc : c ∈ l) {u : Nat} (hu : u < c.meths.length) {s e : List (List UInt8)} (hs : Chain l c.nm s) : foundFirst l c.meths[u].nm c.meths[u].ty s e = some (c.nm, c.meths[u]) := by
  obtain ⟨t, rfl⟩ := hs.pos
  apply found_own
  rw [methFirst_eq, List.findSome?_cons]
  have : methStep l c.meths[u].nm c.meths[u].ty c.nm = some (c.nm, c.meths[u]) := by
    unfold methStep
    rw [classD_some (classOf_mem hV.1.2.1 hc), meth_own (hV.1.cls hc) hu]
    rfl
  rw [this]
theorem found_in {l : List ClassD} {y z u : List UInt8} {s e : List (List UInt8)} (hs : Chain l y s) (he : Sorted l y e) {r : List UInt8 × MethD} (h : foundFirst l z u s e = some r) : r.1 = y ∨ Up l y r.1 := by
  have hface : ∀ ab, ifaceFirst l z u ab e = some r → r.1 ∈ e := fun ab h => by
    rw [ifaceFirst_eq] at h
    obtain ⟨x, hx, h2⟩ := List.exists_of_findSome?_eq_some h
    unfold ifaceStep at h2
    split at h2
    · split at h2
      · obtain rfl := Option.some.inj h2
        exact hx
      · cases h2
    · cases h2
  unfold foundFirst at h
  split at h
  · rename_i r' hr
    obtain rfl := Option.some.inj h
    rw [methFirst_eq] at hr
    obtain ⟨x, hx, h2⟩ := List.exists_of_findSome?_eq_some hr
    unfold methStep at h2
    obtain ⟨m, _, rfl⟩ := Option.map_eq_some_iff.1 h2
    exact hs.mem x hx
  · split at h
    · rename_i r' hr
      obtain rfl := Option.some.inj h
      exact (he.2 _).1 (hface _ hr)
    · exact (he.2 _).1 (hface _ h)
set_option maxRecDepth 20000 in
set_option maxHeartbeats 8000000 in
theorem findOwn_out (KC : WorldChecks) (l : List ClassD) (q : Nat) (hq : WorldIs l q) (i k : Int) (y z u : List UInt8) (A : Option Addr) (n c : Nat) (w : World) (T : Tab w) (R : ClassRow w A n c l) (NA : A = none → n = 0 ∧ c = 0) (hu : ∀ x ∈ l, x.upto 140737488351232) (hw : ∀ x ∈ l, x.wf) (hn : n ≤ 140737488351232) (h : q ≠ 0 ∨ n = 0) :
    Calls Tryd.prog 3 #[.slice A n c, .int .i64 i, .int .i64 k, .string (bs y), .string (bs z), .string (bs u)] w fun e w' => e = .returned (.bool true) ∧ Below w.heap.size w w' := by
  have HC := Lib.hid (fun W => named_any W)
  have HCk := KC l q A n c w hq T R NA hu hw hn
  have hcase : ((q != 0) = true) ∨ (q = 0 ∧ n = 0) := by
    by_cases h0 : q = 0
    · exact .inr ⟨h0, h.resolve_left (fun h' => h' h0)⟩
    · exact .inl (by rw [bne_iff_ne]; exact h0)
  clear hq T R NA hu hw hn h KC
  rcases hcase with h | ⟨rfl, rfl⟩
  all_goals
    replace HCk := Lib.hid HCk
    go_enter Tryd.func3, Tryd.ntmps3
    go_wp2_with (first
      | (go_at_call 4; (with_reducible refine (HC.out _).mono ?_); rintro e w1 ⟨rfl, rfl⟩)
      | (go_at_call 5; (with_reducible refine HCk.out.mono ?_); rintro e w2 ⟨rfl, hb⟩
         have HB2 := Lib.hid hb
         clear hb))
    go_ret
    exact ⟨rfl, HB2.out⟩
/-- What the second half of FindOwn asks. -/
theorem own_second {l : List ClassD} {q : Nat} {y z u : List UInt8} {o : Option (List UInt8 × MethD)} (ho : MethIs l q y z u o) (h : foundQ l q y o = 0) : namedQ l q y = 0 ∧ ∃ r, o = some r ∧ ∀ ev, Sorted l y ev → r.1 ∈ ev := by
  unfold foundQ at h
  split at h
  · rename_i h0
    exact absurd h h0
  · rename_i h0
    have h0 : namedQ l q y = 0 := by simpa using h0
    obtain ⟨s, e, hs, he, hoe⟩ := ho.1 h0
    cases o with
    | none => cases h
    | some r => exact ⟨h0, r, rfl, fun ev hev => (hev.2 _).2 (found_in hs he hoe.symm)⟩
set_option maxRecDepth 20000 in
set_option maxHeartbeats 16000000 in
theorem findOwn_in (KC : WorldChecks) (KA : WorldAlls) (KM : FindMeths) (l : List ClassD) (hq : WorldIs l 0) (i k : Int) (y z u : List UInt8) (A : Option Addr) (n c : Nat) (w : World) (T : Tab w) (R : ClassRow w A n c l) (NA : A = none → n = 0 ∧ c = 0) (hu : ∀ x ∈ l, x.upto 140737488351232) (hw : ∀ x ∈ l, x.wf) (hn : n ≤ 140737488351232) (h0 : 0 < n) (hy : y.length ≤ 140737488351232) (hz : z.length ≤ 140737488351232) (hz2 : u.length ≤ 140737488351232) :
    Calls Tryd.prog 3 #[.slice A n c, .int .i64 i, .int .i64 k, .string (bs y), .string (bs z), .string (bs u)] w fun e w' => e = .returned (.bool true) ∧ Below w.heap.size w w' := by
  have hV : Valid l := worldIs_zero hq
  have hl : l.length = n := R.1
  have hn10 : n ≤ 10 := by have := hV.1.1; omega
  obtain ⟨t, htn, htm⟩ := pick_at i n h0
  have hcv := fun W => conv_uint i W
  have hcn := fun W => conv_uint (n : Int) W
  rw [wrap_small_u n (by omega)] at hcn
  have hrm := fun W => rem_uint _ n t h0 htm W
  have ht1 : t < l.length := by omega
  have hxm := List.getElem_mem ht1
  obtain ⟨x, hx⟩ : ∃ x, x = l[t] := ⟨_, rfl⟩
  rw [← hx] at hxm
  have hxc := classOf_mem hV.1.2.1 hxm
  have hkx : knownB l x.nm = true := by unfold knownB; rw [hxc]; rfl
  have hxu := hu x hxm
  have hm8 : x.meths.length ≤ 8 := by
    obtain ⟨_, _, h3, _⟩ := classF_zero.1 (hV.1.cls hxm)
    omega
  have HC := Lib.hid (fun W => named_any W)
  have HCk := Lib.hid (err_bad (KC l 0 A n c w hq T R NA hu hw (by omega)) rfl)
  obtain ⟨o, ho⟩ := meth_ex l 0 hq y z u
  have HM2 := fun W T R => KM l 0 y z u o A n c W hq ho T R NA hu hw hn hy hz hz2
  have HAl := fun W T R => KA l 0 y A n c W hq T R NA hu hw hn hy
  have hcase : (∃ r : List UInt8 × MethD, o = some r ∧ foundQ l 0 y o = 0 ∧ namedQ l 0 y = 0 ∧ ∀ ev, Sorted l y ev → ev.any (· == r.1) = true) ∨ (foundQ l 0 y o != 0) = true := by
    by_cases h : foundQ l 0 y o = 0
    · obtain ⟨h1, r, rfl, h2⟩ := own_second ho h
      exact .inl ⟨r, rfl, h, h1, fun ev hev => any_mem.2 (h2 ev hev)⟩
    · exact .inr (by rw [bne_iff_ne]; exact h)
  have HT := Lib.hid T
  have HR := Lib.hid R
  have HX := Lib.hid hx
  obtain ⟨m2, hm2⟩ : ∃ m2, m2 = (o.map (·.2)).getD zeroM := ⟨_, rfl⟩
  obtain ⟨n2, hn2⟩ : ∃ n2, n2 = (o.map (·.1)).getD [] := ⟨_, rfl⟩
  have HM2 := Lib.hid (show ∀ W, Tab W → ClassRow W A n c l → Calls Tryd.prog 6 #[.slice A n c, .string (bs y), .string (bs z), .string (bs u)] W (fun e w' => ∃ A4 c4 B4 d4, e = .returned (.tuple #[.string (bs n2), .agg #[.string (bs m2.nm), .string (bs m2.ty), .bool m2.st, .bool m2.ab, .bool m2.pr, .int .i64 m2.lo, .slice A4 0 c4, .slice B4 0 d4], errV (foundQ l 0 y o)]) ∧ Below W.heap.size W w') from fun W T R => (HM2 W T R).mono fun e w' ⟨v, h1, ⟨A4, c4, B4, d4, hv⟩, h2⟩ => ⟨A4, c4, B4, d4, by rw [h1, hv, hm2, hn2], h2⟩)
  have HAl2 := Lib.hid (show ∀ W, Tab W → ClassRow W A n c l → Calls Tryd.prog 7 #[.slice A n c, .string (bs y)] W (fun e w' => ∃ A6 s6 c6, e = .returned (.tuple #[.slice A6 s6.length c6, errV (namedQ l 0 y)]) ∧ (namedQ l 0 y = 0 → Sorted l y s6) ∧ StrRow w' A6 s6.length c6 s6 ∧ s6.length ≤ 13 ∧ Below W.heap.size W w') from fun W T R => (HAl W T R).mono fun e w' ⟨v, s6, h1, h2, h3, _, h5, h6⟩ => (by
    obtain ⟨A6, c6, rfl⟩ := h2.form
    exact ⟨A6, s6, c6, h1, h3, h2.row, h5, h6⟩))
  have hend : (foundQ l 0 y o = 0 ∧ namedQ l 0 y = 0 ∧ ∀ ev, Sorted l y ev → ev.any (· == n2) = true) ∨ (foundQ l 0 y o != 0) = true := by
    rcases hcase with ⟨r, rfl, h1, h2, h3⟩ | h
    · exact .inl ⟨h1, h2, by rw [hn2]; exact h3⟩
    · exact .inr h
  have hself := fun (v : Nat) (hv : v < x.meths.length) (m : MethD) (hm : x.meths[v] = m) W T R => (KM l 0 x.nm m.nm m.ty (some (x.nm, m)) A n c W hq ⟨fun h1 => (by
      obtain ⟨s, hs, _⟩ := chain_is hV hkx
      obtain ⟨e, he⟩ := sorted_is hV hkx
      exact ⟨s, e, hs, he, by rw [← hm]; exact (found_self hV hxm hv hs).symm⟩), fun h1 => absurd (namedQ_zero.2 ⟨rfl, hkx⟩) h1⟩ T R NA hu hw hn hxu.1 (by rw [← hm]; exact (hxu.2.2.2.2.1 _ (List.getElem_mem hv)).1) (by rw [← hm]; exact (hxu.2.2.2.2.1 _ (List.getElem_mem hv)).2.1))
  have hfq : ∀ m : MethD, foundQ l 0 x.nm (some (x.nm, m)) = 0 := fun m => foundQ_some (namedQ_zero.2 ⟨rfl, hkx⟩)
  have hpos : x.meths.length = 0 ∨ ∃ v : Nat, ∃ hv : v < x.meths.length, (IntKind.u64.wrap k).tmod (x.meths.length : Int) = (v : Int) := by
    rcases Nat.eq_zero_or_pos x.meths.length with h | h
    · exact .inl h
    · obtain ⟨v, hv, hvm⟩ := pick_at k x.meths.length h
      exact .inr ⟨v, hv, hvm⟩
  have hck := fun W => conv_uint k W
  have hcl := fun W => conv_uint (x.meths.length : Int) W
  rw [wrap_small_u x.meths.length (by omega)] at hcl
  clear hl hcase HAl hxc ho hm2 hn2
  rcases hpos with hm0 | ⟨v, hv, hvm⟩
  · clear hself hfq hck hcl hV hxm hkx hxu KC KA KM T R NA hu hw hq hx hm8
    have HM0 := Lib.hid hm0
    rcases hend with ⟨h1, h2, h3⟩ | h1
    all_goals
      first | rw [h1] at HM2 | skip
      first | rw [h2] at HAl2 | skip
      first | replace h3 := Lib.hid h3 | skip
      go_enter Tryd.func3, Tryd.ntmps3
      go_wp2_with (first
        | (go_at_call 4; (with_reducible refine (HC.out _).mono ?_); rintro e w1 ⟨rfl, rfl⟩)
        | (go_at_call 5; (with_reducible refine HCk.out.mono ?_); rintro e w2 ⟨rfl, hb⟩
           have HB2 := Lib.hid hb
           obtain ⟨b1, o1, rfl, hb1, hx1⟩ := SRow.at_ (ClassRow.below HR.out HB2.out) htn
           rw [← HX.out] at hx1
           obtain ⟨c0, c1, ⟨A1, i1, j1, c2, R1, N1⟩, c3, ⟨A2, i2, j2, c4, R2, N2⟩, ⟨A3, i3, j3, c5, R3, N3⟩⟩ := hx1
           obtain rfl : i3 = 0 := R3.1.symm.trans HM0.out
           have HB3 := Lib.hid (HB2.out.alloc HB2.out.size (.cells #[.string (bs x.nm), .string (bs x.su), .slice A1 i1 j1, .bool x.face, .slice A2 i2 j2, .slice A3 0 j3] 31))
           have HXB := Lib.hid (cbox_at w2 x A1 i1 j1 A2 i2 j2 A3 0 j3 31 (0, 0))
           obtain ⟨q0, q1, q2, q3, q4, q5, q6⟩ := HXB.out
           clear hb R1 R2 R3 N1 N2 N3)
        | (go_at_call 6; (with_reducible refine (HM2.out _ (HT.out.below HB3.out) (ClassRow.below HR.out HB3.out)).mono ?_); rintro e w4 ⟨A4, c4, B4, d4, rfl, hb⟩
           have hb4 := bnext HB3.out hb
           have HB4 := Lib.hid (fun o => bal_ (o := o) hb4 hb4.size)
           clear hb hb4)
        | (go_at_call 7; (with_reducible refine (HAl2.out _ (HT.out.below (HB4.out _)) (ClassRow.below HR.out (HB4.out _))).mono ?_); rintro e w6 ⟨A6, s6, c6, rfl, hs6, hr6, h13, hb⟩
           have HB6 := Lib.hid (bnext (HB4.out _) hb)
           have HV6 := Lib.hid hr6
           have HS6 := Lib.hid hs6
           have H13 := Lib.hid h13
           clear hb hr6 hs6 h13)
        | (go_at_call 8; (with_reducible refine (rin_any _ _ _ _ n2 _ HV6.out (by have := H13.out; omega)).mono ?_); rintro e w10 ⟨rfl, rfl⟩
           rw [h3.out _ (HS6.out (by simp))]))
      go_ret
      exact ⟨rfl, HB6.out⟩
  · obtain ⟨m, hm⟩ : ∃ m, x.meths[v] = m := ⟨_, rfl⟩
    have HSelf := Lib.hid (show ∀ W, Tab W → ClassRow W A n c l → Calls Tryd.prog 6 #[.slice A n c, .string (bs x.nm), .string (bs m.nm), .string (bs m.ty)] W (fun e w' => ∃ A4 c4 B4 d4, e = .returned (.tuple #[.string (bs x.nm), .agg #[.string (bs m.nm), .string (bs m.ty), .bool m.st, .bool m.ab, .bool m.pr, .int .i64 m.lo, .slice A4 0 c4, .slice B4 0 d4], .nilIface]) ∧ Below W.heap.size W w') from fun W T R => (hself v hv m hm W T R).mono fun e w' ⟨v', h1, ⟨A4, c4, B4, d4, hv'⟩, h2⟩ => ⟨A4, c4, B4, d4, by rw [h1, hv', hfq m]; rfl, h2⟩)
    have hp0 : 0 < x.meths.length := by omega
    have hrk := fun W => rem_uint _ x.meths.length v hp0 hvm W
    have hpI : (0 : Int) < (x.meths.length : Int) := by omega
    have HV := Lib.hid hv
    clear hself hfq hV hxm hkx hxu KC KA KM T R NA hu hw hq hx
    have HMv := Lib.hid hm.symm
    clear hm
    have e1 : ((bs x.nm).toList == (bs x.nm).toList) = true := by simp
    have e2 : ((bs m.nm).toList == (bs m.nm).toList) = true := by simp
    have e3 : ((bs m.ty).toList == (bs m.ty).toList) = true := by simp
    have e4 : (m.lo != m.lo) = false := by simp
    rcases hend with ⟨h1, h2, h3⟩ | h1
    all_goals
      first | rw [h1] at HM2 | skip
      first | rw [h2] at HAl2 | skip
      first | replace h3 := Lib.hid h3 | skip
      go_enter Tryd.func3, Tryd.ntmps3
      go_wp2_with (first
        | (go_at_call 4; (with_reducible refine (HC.out _).mono ?_); rintro e w1 ⟨rfl, rfl⟩)
        | (go_at_call 5; (with_reducible refine HCk.out.mono ?_); rintro e w2 ⟨rfl, hb⟩
           have HB2 := Lib.hid hb
           obtain ⟨b1, o1, rfl, hb1, hx1⟩ := SRow.at_ (ClassRow.below HR.out HB2.out) htn
           rw [← HX.out] at hx1
           obtain ⟨c0, c1, ⟨A1, i1, j1, c2, R1, N1⟩, c3, ⟨A2, i2, j2, c4, R2, N2⟩, ⟨A3, i3, j3, c5, R3, N3⟩⟩ := hx1
           obtain rfl : x.meths.length = i3 := R3.1
           have HB3 := Lib.hid (HB2.out.alloc HB2.out.size (.cells #[.string (bs x.nm), .string (bs x.su), .slice A1 i1 j1, .bool x.face, .slice A2 i2 j2, .slice A3 x.meths.length j3] 31))
           have HXB := Lib.hid (cbox_at w2 x A1 i1 j1 A2 i2 j2 A3 x.meths.length j3 31 (0, 0))
           obtain ⟨q0, q1, q2, q3, q4, q5, q6⟩ := HXB.out
           obtain ⟨b3, o3, rfl, hb3, hm3⟩ := SRow.at_ R3 HV.out
           rw [← HMv.out] at hm3
           obtain ⟨g0, g1, g2, g3, g4, g5, ⟨A7, i7, j7, g6, _, _⟩, ⟨A8, i8, j8, g7, _, _⟩⟩ := hm3
           have HB3m := Lib.hid ((HB3.out.alloc HB3.out.size (.cells #[.string (bs m.nm), .string (bs m.ty), .bool m.st, .bool m.ab, .bool m.pr, .int .i64 m.lo, .slice A7 i7 j7, .slice A8 i8 j8] 36)).drew)
           have HXM := Lib.hid ((HXB.out.below (al1 _ (.cells #[.string (bs m.nm), .string (bs m.ty), .bool m.st, .bool m.ab, .bool m.pr, .int .i64 m.lo, .slice A7 i7 j7, .slice A8 i8 j8] 36))).below (Below.refl _ _).drew)
           have HMM := Lib.hid (show Cells ((w2.alloc (.cells #[.string (bs x.nm), .string (bs x.su), .slice A1 i1 j1, .bool x.face, .slice A2 i2 j2, .slice (some ⟨b3, o3, none⟩) x.meths.length j3] 31)).alloc (.cells #[.string (bs m.nm), .string (bs m.ty), .bool m.st, .bool m.ab, .bool m.pr, .int .i64 m.lo, .slice A7 i7 j7, .slice A8 i8 j8] 36)).drew (w2.heap.size + 1) #[.string (bs m.nm), .string (bs m.ty), .bool m.st, .bool m.ab, .bool m.pr, .int .i64 m.lo, .slice A7 i7 j7, .slice A8 i8 j8] from by
             have := cells_at (w2.alloc (.cells #[.string (bs x.nm), .string (bs x.su), .slice A1 i1 j1, .bool x.face, .slice A2 i2 j2, .slice (some ⟨b3, o3, none⟩) x.meths.length j3] 31)) #[.string (bs m.nm), .string (bs m.ty), .bool m.st, .bool m.ab, .bool m.pr, .int .i64 m.lo, .slice A7 i7 j7, .slice A8 i8 j8] 36
             exact Cells.below (by simpa using this) (Below.refl _ _).drew)
           clear hb R1 R2 R3 N1 N2 N3))
      go_region
      obtain ⟨t0, t1, t2, t3, t4, t5, t6, t7⟩ := HMM.out.get8
      obtain ⟨s0, s1, s2, s3, s4, s5, s6⟩ := HXM.out
      go_wp2_with (first
        | (go_at_call 6; (with_reducible refine (HSelf.out _ (HT.out.below HB3m.out) (ClassRow.below HR.out HB3m.out)).mono ?_); rintro e w4 ⟨A9, c9, B9, d9, rfl, hb⟩
           have hb4 := bnext HB3m.out hb
           have HB4 := Lib.hid (hb4.alloc hb4.size (.cells #[.string (bs m.nm), .string (bs m.ty), .bool m.st, .bool m.ab, .bool m.pr, .int .i64 m.lo, .slice A9 0 c9, .slice B9 0 d9] 36))
           obtain ⟨k0, k1, k2, k3, k4, k5, k6, k7⟩ := ((HMM.out.below hb).below (al1 w4 (.cells #[.string (bs m.nm), .string (bs m.ty), .bool m.st, .bool m.ab, .bool m.pr, .int .i64 m.lo, .slice A9 0 c9, .slice B9 0 d9] 36))).get8
           obtain ⟨r0, r1, r2, r3, r4, r5, r6⟩ := (HXM.out.below hb).below (al1 w4 (.cells #[.string (bs m.nm), .string (bs m.ty), .bool m.st, .bool m.ab, .bool m.pr, .int .i64 m.lo, .slice A9 0 c9, .slice B9 0 d9] 36))
           clear hb hb4)
        | (go_at_call 6; (with_reducible refine (HM2.out _ (HT.out.below HB4.out) (ClassRow.below HR.out HB4.out)).mono ?_); rintro e w5 ⟨A4, c4, B4, d4, rfl, hb⟩
           have hb5 := bnext HB4.out hb
           have HB5 := Lib.hid (fun o => bal_ (o := o) hb5 hb5.size)
           clear hb hb5)
        | (go_at_call 7; (with_reducible refine (HAl2.out _ (HT.out.below (HB5.out _)) (ClassRow.below HR.out (HB5.out _))).mono ?_); rintro e w6 ⟨A6, s6, c6, rfl, hs6, hr6, h13, hb⟩
           have HB6 := Lib.hid (bnext (HB5.out _) hb)
           have HV6 := Lib.hid hr6
           have HS6 := Lib.hid hs6
           have H13 := Lib.hid h13
           clear hb hr6 hs6 h13)
        | (go_at_call 8; (with_reducible refine (rin_any _ _ _ _ n2 _ HV6.out (by have := H13.out; omega)).mono ?_); rintro e w10 ⟨rfl, rfl⟩
           rw [h3.out _ (HS6.out (by simp))]))
      go_ret
      exact ⟨rfl, HB6.out⟩
/-- For every hierarchy. -/
theorem findOwn_walk (KC : WorldChecks) (KA : WorldAlls) (KM : FindMeths) (l : List ClassD) (i k : Int) (y z u : List UInt8) (A : Option Addr) (n c : Nat) (w : World) (T : Tab w) (R : ClassRow w A n c l) (NA : A = none → n = 0 ∧ c = 0) (hu : ∀ x ∈ l, x.upto 140737488351232) (hw : ∀ x ∈ l, x.wf) (hn : n ≤ 140737488351232) (hy : y.length ≤ 140737488351232) (hz : z.length ≤ 140737488351232) (hz2 : u.length ≤ 140737488351232) :
    Calls Tryd.prog 3 #[.slice A n c, .int .i64 i, .int .i64 k, .string (bs y), .string (bs z), .string (bs u)] w fun e w' => e = .returned (.bool true) ∧ Below w.heap.size w w' := by
  obtain ⟨q, hq⟩ := world_is l
  by_cases h : q = 0
  · subst h
    rcases Nat.eq_zero_or_pos n with h0 | h0
    · exact findOwn_out KC l 0 hq i k y z u A n c w T R NA hu hw hn (.inr h0)
    · exact findOwn_in KC KA KM l hq i k y z u A n c w T R NA hu hw hn h0 hy hz hz2
  · exact findOwn_out KC l q hq i k y z u A n c w T R NA hu hw hn (.inl h)
end Go.Proofs.YtkolpbjpgobkcaaDoor
