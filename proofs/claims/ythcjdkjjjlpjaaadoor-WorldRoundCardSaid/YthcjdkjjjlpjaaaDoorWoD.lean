/- The walk of coffeehouselaw6.WorldRound, from what package world says. -/
import Derived.Deep.DeepCutAuto
import Derived.Test.YthcjdkjjjlpjaaaDoorWoG
import Derived.Test.YthcjdkjjjlpjaaaDoorWoH
import Derived.Test.YthcjdkjjjlpjaaaDoorClX
import Derived.Test.YthcjdkjjjlpjaaaDoorGA
namespace Go.Proofs.YthcjdkjjjlpjaaaDoor
open Go.ChangeShapes Go.WideShapes Go.ChangeAt Go.RowKit
set_option linter.unusedVariables false
attribute [local go_sem] eqGuard_errV_nil eqGuard_errV_iface eql_errV_nil neq_errV_nil eql_errV_form

theorem class_copies : Copies ClassAt 6 := fun {w b o x} h => by
  obtain ⟨h0, h1, ⟨A, n, c, h2, r2, k2⟩, h3, ⟨B, k, d, h4, r4, k4⟩, ⟨C, m, f, h5, r5, k5⟩⟩ := h
  refine ⟨[.string (bs x.nm), .string (bs x.su), .slice A n c, .bool x.face, .slice B k d, .slice C m f], rfl, by simp [Value.oneCell'], fun i u hu => ?_, fun hb hc => ?_⟩
  · match i, hu with
    | 0, hu => obtain rfl := Option.some.inj hu; exact h0
    | 1, hu => obtain rfl := Option.some.inj hu; exact h1
    | 2, hu => obtain rfl := Option.some.inj hu; exact h2
    | 3, hu => obtain rfl := Option.some.inj hu; exact h3
    | 4, hu => obtain rfl := Option.some.inj hu; exact h4
    | 5, hu => obtain rfl := Option.some.inj hu; exact h5
  · exact ⟨hc 0 _ rfl, hc 1 _ rfl, ⟨A, n, c, hc 2 _ rfl, StrRow.below r2 hb, k2⟩, hc 3 _ rfl, ⟨B, k, d, hc 4 _ rfl, FieldRow.below r4 hb, k4⟩, ⟨C, m, f, hc 5 _ rfl, MethRow.below r5 hb, k5⟩⟩
theorem class_info : (Tryd.prog.info? 31).map (fun i => (i.zero, i.size, i.bytes)) = some (some (.agg #[.string ⟨#[]⟩, .string ⟨#[]⟩, .slice none 0 0, .bool false, .slice none 0 0, .slice none 0 0]), 6, 112) := by kernel_rfl
/-- Elements behind elements: the first a row of the call's own. -/
theorem wpList_rows {P : Program} {w : World} {ops : Array Oper} {rest : List Oper} {o : Oper} {a : Act} {Q : Exit → Act → World → Prop} (hgd : o.guard = none) (s x : Operand) (t e : TypeId) (k bytes : Nat) (z : Value) (ho : o.op = .call { callee := .builtin .append, args := #[s, x], argTypes := #[t, t] })
    (ht : P.underlying t = some (.slice e)) (hi : (P.info? e).map (fun i => (i.zero, i.size, i.bytes)) = some (some z, k, bytes)) (hz : z.cells.size = k) (hk : 0 < k)
    (base : Nat) (v : Value) (n : Nat) (xs ys : List Value) (N : Nat) (hs : a.eval s = v) (hown : w.ownsRow base e k v n xs)
    (A : Option Addr) (m c : Nat) (hx : a.eval x = .slice A m c) (hN : n + m = N) (hy : ys.length = m * k) (h1 : ∀ u ∈ ys, u.oneCell' = true) (R : Lies w A m ys) (hA : A = none → m = 0 ∧ c = 0)
    (hn : N ≤ 1048576) (hbytes : bytes ≤ 1048576) (hbase : base ≤ w.heap.size)
    (h : ∀ A' c' w', w'.ownsRow base e k (.slice A' N c') N (xs ++ ys) → Below base w w' → w.grownBy w' v.ownBlock → wpList P ops Q rest (a.put o.dst (.slice A' N c')) w') : wpList P ops Q (o :: rest) a w :=
  wpList_plain hgd fun K hK => by
    have := step_rows (P := P) (ops := ops) (o := o) (a := a) (w := w) (K := K) (Q := Q) (E := True) hgd s x t e k bytes z ho ht hi hz hk base v n xs ys N hs hown A m c hx hN hy h1 R hA hn hbytes hbase (fun A' c' w' g1 g2 g3 => hK _ _ (h A' c' w' g1 g2 g3))
    rwa [if_pos (by simp [Region.wanted, hgd])] at this
/-- A copy of the classes in which one extends another class. -/
theorem copy_set {w3 w5 : World} {A : Option Addr} {n c c5 : Nat} {l : List ClassD} {cs : List Value} (R : ClassRow w3 A n c l) (hcs : CellsOf ClassAt 6 w3 l cs) (hly : Lies w3 A n cs) (hb : Below w3.heap.size w3 w5) {g t : Nat} (hg : g < w5.heap.size) (hnc : n ≤ c5) (ht : t < l.length) {z : List UInt8} {y : ClassD}
    (hy : y = ⟨l[t].nm, z, l[t].faces, l[t].face, l[t].fields, l[t].meths⟩) (h1 : w5.cell? ⟨g, t * 6 + 1, none⟩ = some (.string (bs z))) (hc : ∀ i u, i ≠ t * 6 + 1 → cs[i]? = some u → w5.cell? ⟨g, i, none⟩ = some u) :
    ClassRow w5 (some ⟨g, 0, none⟩) n c5 (l.set t y) := by
  have hl : l.length = n := R.1
  refine ⟨by rw [List.length_set]; exact hl, hnc, fun h0 => ⟨g, 0, rfl, hg, fun j x hx => ?_⟩⟩
  by_cases e : t = j
  · subst e
    rw [List.getElem?_set_self ht] at hx
    obtain rfl := Option.some.inj hx
    obtain ⟨b, o, rfl, hb3, hat⟩ := SRow.at_ R (j := t) (by omega)
    obtain ⟨b', o', e', _, hl2⟩ := hly h0
    have hbo : b = b' ∧ o = o' := by simpa using e'
    obtain ⟨rfl, rfl⟩ := hbo
    have hcl := hcs.1
    have key : ∀ i u, i < 6 → i ≠ 1 → w3.cell? ⟨b, o + t * 6 + i, none⟩ = some u → w5.cell? ⟨g, 0 + t * 6 + i, none⟩ = some u := fun i u hi hi1 hu => by
      have hlt : t * 6 + i < cs.length := by rw [hcl]; omega
      have h2 := hl2 (t * 6 + i) _ (List.getElem?_eq_getElem hlt)
      rw [← Nat.add_assoc, hu] at h2
      have h3 := hc (t * 6 + i) _ (by omega) (List.getElem?_eq_getElem hlt)
      rw [← h2] at h3
      rw [show 0 + t * 6 + i = t * 6 + i by omega]
      exact h3
    obtain ⟨h0', _, ⟨A2, n2, m2, c2, r2, k2⟩, c3, ⟨A4, n4, m4, c4, r4, k4⟩, ⟨A5, n5, m5, c5', r5, k5⟩⟩ := hat
    rw [hy]
    exact ⟨key 0 _ (by omega) (by omega) h0', by rw [show 0 + t * 6 + 1 = t * 6 + 1 by omega]; exact h1, ⟨A2, n2, m2, key 2 _ (by omega) (by omega) c2, StrRow.below r2 hb, k2⟩, key 3 _ (by omega) (by omega) c3, ⟨A4, n4, m4, key 4 _ (by omega) (by omega) c4, FieldRow.below r4 hb, k4⟩,
      ⟨A5, n5, m5, key 5 _ (by omega) (by omega) c5', MethRow.below r5 hb, k5⟩⟩
  · rw [List.getElem?_set_ne e] at hx
    refine hcs.2.2 j x hx hb fun i u hi hu => ?_
    rw [show 0 + j * 6 + i = j * 6 + i by omega]
    exact hc _ u (by omega) hu
theorem eql_round (w : World) : (binOp .eql 25 (errV 6) (.iface 38 (.int .i64 6))).run Tryd.prog w = .ok (.bool true) w := eql_errV_iface 6 6 w (by decide)
theorem ClassRow.get {w : World} {b o n c : Nat} {l : List ClassD} (R : ClassRow w (some ⟨b, o, none⟩) n c l) {j : Nat} (hj : j < l.length) : b < w.heap.size ∧ ClassAt w b (o + j * 6) l[j] := by
  have hl : l.length = n := R.1
  obtain ⟨b', o', e, hb, h⟩ := SRow.at_ R (j := j) (by omega)
  have hbo : b = b' ∧ o = o' := by simpa using e
  obtain ⟨rfl, rfl⟩ := hbo
  exact ⟨hb, h⟩
theorem own_some {w : World} {base : Nat} {e : TypeId} {k n c : Nat} {A : Option Addr} {cs : List Value} (h : w.ownsRow base e k (.slice A n c) n cs) (h0 : 0 < n) :
    ∃ g, A = some ⟨g, 0, none⟩ ∧ base ≤ g ∧ g < w.heap.size ∧ n ≤ c ∧ (∀ i u, cs[i]? = some u → w.cell? ⟨g, i, none⟩ = some u) ∧ ∀ j, w.frozen? ⟨g, j, none⟩ = false := by
  rcases h.2 with ⟨hv, h1⟩ | ⟨g, cap, cur, hv, hg, hh, hnc, _⟩
  · omega
  · obtain ⟨rfl, rfl⟩ : A = some ⟨g, 0, none⟩ ∧ c = cap := by simpa using hv
    refine ⟨g, rfl, hg, (h.lt g rfl).2, hnc, fun i u hu => ?_, fun j => ?_⟩
    · have := h.cells (g := g) rfl i u hu
      rw [add_spotless, Nat.zero_add] at this
      exact this
    · unfold World.frozen?
      rw [hh]
      show (decide (0 ≤ j) && decide (j < 0)) = false
      simp
set_option maxRecDepth 20000 in
set_option maxHeartbeats 8000000 in
theorem worldRound_in (KC : WorldChecks) (KS : WorldSupers) (l : List ClassD) (i k : Int) (b1 o1 n c : Nat) (w : World) (T : Tab w) (R : ClassRow w (some ⟨b1, o1, none⟩) n c l) (hu : ∀ x ∈ l, x.upto 140737488351232) (hw : ∀ x ∈ l, x.wf) (hn : n ≤ 140737488351232)
    (hq : WorldIs l 0) (h0 : 0 < n) :
    Calls Tryd.prog 4 #[.slice (some ⟨b1, o1, none⟩) n c, .int .i64 i, .int .i64 k] w fun e w' => e = .returned (.bool true) ∧ Below w.heap.size w w' := by
  have hV : Valid l := worldIs_zero hq
  have hl : l.length = n := R.1
  have hn10 : n ≤ 10 := by have := hV.1.1; omega
  obtain ⟨ta, han, hta⟩ := pick_at i n h0
  obtain ⟨tb, hbn, htb⟩ := pick_at k n h0
  have hcv := fun W => conv_uint i W
  have hck := fun W => conv_uint k W
  have hcn := fun W => conv_uint (n : Int) W
  rw [wrap_small_u n (by omega)] at hcn
  have ha1 : ta < l.length := by omega
  have hb1 : tb < l.length := by omega
  have hne : ((n : Int) == 0) = false := by rw [beq_eq_false_iff_ne]; omega
  have hxc := classOf_at hV.1.2.1 ha1
  have hkx : knownB l l[ta].nm = true := by unfold knownB; rw [hxc]; rfl
  obtain ⟨s, hs, hs12⟩ := chain_is hV hkx
  have HCk := Lib.hid (fun W T R => err_bad (KC l 0 (some ⟨b1, o1, none⟩) n c W hq T R (fun h => by cases h) hu hw (by omega)) rfl)
  have HS1 := Lib.hid (fun W T R => (KS l 0 l[ta].nm (some ⟨b1, o1, none⟩) n c W hq T R (fun h => by cases h) hu hw (by omega) (hu _ (List.getElem_mem ha1)).1).mono fun e w' h => lists_ok (namedQ_zero.2 ⟨rfl, hkx⟩) h)
  obtain ⟨y, hy⟩ : ∃ y : ClassD, y = ⟨l[tb].nm, l[ta].nm, l[tb].faces, l[tb].face, l[tb].fields, l[tb].meths⟩ := ⟨_, rfl⟩
  have HCo := Lib.hid (fun (hm : l[tb].nm ∈ s) (hfa : l[ta].face = false) (hfb : l[tb].face = false) (g c5 : Nat) W T R => KC (l.set tb y) 6 (some ⟨g, 0, none⟩) n c5 W (round_set hV ha1 hb1 hs hm hfa hfb hy) T R (fun h => by cases h) (fun x hx => by
    rcases List.mem_or_eq_of_mem_set hx with hx | rfl
    · exact hu x hx
    · have h1 := hu _ (List.getElem_mem ha1)
      have h2 := hu _ (List.getElem_mem hb1)
      rw [hy]
      exact ⟨h2.1, h1.1, h2.2.2⟩) (fun x hx => by
    rcases List.mem_or_eq_of_mem_set hx with hx | rfl
    · exact hw x hx
    · rw [hy]; exact fun m hm => hw _ (List.getElem_mem hb1) m hm) (by omega))
  have HT := Lib.hid T
  have HR := Lib.hid R
  have HSs := Lib.hid hs
  have HY := Lib.hid hy
  have HL := Lib.hid hl
  have hwa : IntKind.i64.wrap (ta : Int) = ta := by rw [IntKind.wrap_i64]; omega
  have hwb : IntKind.i64.wrap (tb : Int) = tb := by rw [IntKind.wrap_i64]; omega
  clear hV hl hxc hkx KC KS T R hu hw hq hs hy
  generalize hA : l[ta] = xa at *
  generalize hB : l[tb] = xb at *
  replace hA := Lib.hid hA
  replace hB := Lib.hid hB
  go_enter Tryd.func4, Tryd.ntmps4
  go_upto_region 13 with (first
    | (go_at_call 11; (with_reducible refine (named_any _).mono ?_); rintro e w1 ⟨rfl, rfl⟩)
    | (go_at_call 6; (with_reducible refine (HCk.out _ HT.out HR.out).mono ?_); rintro e w2 ⟨rfl, hb⟩
       have HB2 := Lib.hid hb
       obtain ⟨hz2, c0, c1, c2, c3, _⟩ := ClassRow.get (ClassRow.below HR.out hb) ha1
       rw [hA.out] at c0 c1 c3
       clear hb)
    | (go_at_call 7; (with_reducible refine (HS1.out _ (HT.out.below HB2.out) (ClassRow.below HR.out HB2.out)).mono ?_); rintro e w3 ⟨A3, s3, d3, rfl, hv, hrel, _, hb⟩
       obtain rfl := HSs.out.one hrel
       have HV3 := Lib.hid hv.row
       have HB3 := Lib.hid (bnext HB2.out hb)
       have HR3 := Lib.hid (ClassRow.below HR.out HB3.out)
       obtain ⟨cs, hcs, hly⟩ := SRow.cells (At := ClassAt) class_copies HR3.out
       have HCS := Lib.hid hcs
       have HLY := Lib.hid hly
       have HLe := Lib.hid (hly.below (al1 w3 (.cells #[] 31 (0, 0))))
       have hcl := hcs.1
       rw [HL.out] at hcl
       have hc1 := hcs.2.1
       have HT3 := Lib.hid (HT.out.below HB3.out)
       clear hv hb hrel hcs hly)
    | (at_builtin; refine wpList_rows rfl _ _ 22 31 6 112 _ rfl Tryd.underlying22 class_info rfl (by decide) w3.heap.size (.slice (some ⟨w3.heap.size, 0, none⟩) 0 0) 0 [] cs n rfl (own_bare w3 _ 6 _ (Nat.le_refl _)) (some ⟨b1, o1, none⟩) n c rfl (by omega) hcl hc1 HLe.out (fun h => by cases h) (by omega) (by decide) (by simp) ?_
       intro A4 c4 w4 hv4 hb4 hg4
       have HO4 := Lib.hid hv4
       have HB4 := Lib.hid (((al1 w3 (.cells #[] 31 (0, 0)))).trans hb4)
       obtain ⟨g, rfl, hg3, hg4', hnc4, hc4, hf4⟩ := own_some hv4 h0
       obtain ⟨hz4, e0, _, _, e3, _⟩ := ClassRow.get (ClassRow.below HR3.out HB4.out) ha1
       obtain ⟨_, f0, _, _, f3, _⟩ := ClassRow.get (ClassRow.below HR3.out HB4.out) hb1
       rw [hA.out] at e0 e3
       rw [hB.out] at f0 f3
       have hz3 : b1 < w3.heap.size := (ClassRow.get HR3.out ha1).1
       have hgb : g ≠ b1 := by omega
       have hbg : b1 ≠ g := by omega
       have hf := hf4 (tb * 6 + 1)
       have hce := hc4 (tb * 6 + 1) _ (List.getElem?_eq_getElem (show tb * 6 + 1 < cs.length by rw [hcl]; omega))
       have HC4 := Lib.hid hc4
       clear hv4 hb4 hg4 hc4 hf4))
  have HB5 := Lib.hid (HB4.out.setCell (p := ⟨g, tb * 6 + 1, none⟩) hg3 (.string (bs xa.nm)))
  have h15 : (w4.setCell ⟨g, tb * 6 + 1, none⟩ (.string (bs xa.nm))).cell? ⟨g, tb * 6 + 1, none⟩ = some (.string (bs xa.nm)) := World.cell?_setCell_same _ _ _ hce
  have HC5 : ∀ i u, i ≠ tb * 6 + 1 → cs[i]? = some u → (w4.setCell ⟨g, tb * 6 + 1, none⟩ (.string (bs xa.nm))).cell? ⟨g, i, none⟩ = some u := fun i u hi hu => by
    rw [World.cell?_setCell_other _ _ _ _ (fun e => hi (congrArg Addr.off e).symm)]
    exact HC4.out i u hu
  have hg5 : g < (w4.setCell ⟨g, tb * 6 + 1, none⟩ (.string (bs xa.nm))).heap.size := by simp [World.setCell]; exact hg4'
  have HRo := Lib.hid (copy_set HR3.out HCS.out HLY.out HB5.out hg5 hnc4 hb1 (z := xa.nm) (y := y) (by rw [hB.out]; exact HY.out) h15 HC5)
  clear h15 HC5 hg5 HC4
  generalize w4.setCell ⟨g, tb * 6 + 1, none⟩ (.string (bs xa.nm)) = w5 at *
  clear e0 e3 f0 f3 c0 c1 c3 hf hce
  obtain ⟨hz5, e0, _, _, e3, _⟩ := ClassRow.get (ClassRow.below HR3.out HB5.out) ha1
  obtain ⟨_, f0, _, _, f3, _⟩ := ClassRow.get (ClassRow.below HR3.out HB5.out) hb1
  rw [hA.out] at e0 e3
  rw [hB.out] at f0 f3
  have HW5 := Lib.hid (bnext HB3.out HB5.out)
  have HIn := rin_any A3 s.length d3 s xb.nm w5 (HV3.out.below HB5.out) (by omega)
  have hcase : xa.face = true ∨ (xa.face = false ∧ xb.face = true) ∨ (xa.face = false ∧ xb.face = false ∧ s.any (· == xb.nm) = false) ∨ (xa.face = false ∧ xb.face = false ∧ s.any (· == xb.nm) = true) := by
    cases xa.face <;> cases xb.face <;> cases s.any (· == xb.nm) <;> simp
  rcases hcase with h1 | ⟨h1, h2⟩ | ⟨h1, h2, h3⟩ | ⟨h1, h2, h3⟩
  · rw [h1] at e3
    clear HIn
    go_wp2_with fail
    go_ret
    exact ⟨rfl, HW5.out⟩
  · rw [h1] at e3
    rw [h2] at f3
    clear HIn
    go_wp2_with fail
    go_ret
    exact ⟨rfl, HW5.out⟩
  · rw [h1] at e3
    rw [h2] at f3
    rw [h3] at HIn
    replace HIn := Lib.hid HIn
    go_wp2_with (first
      | (go_at_call 9; (with_reducible refine HIn.out.mono ?_); rintro e w6 ⟨rfl, rfl⟩))
    go_ret
    exact ⟨rfl, HW5.out⟩
  · have HCx := Lib.hid (HCo.out (any_mem.1 h3) h1 h2 g c4 w5 (HT3.out.below HB5.out) HRo.out)
    rw [h1] at e3
    rw [h2] at f3
    rw [h3] at HIn
    replace HIn := Lib.hid HIn
    have hev := eql_round
    clear HCo h1 h2 h3
    go_wp2_with (first
      | (go_at_call 9; (with_reducible refine HIn.out.mono ?_); rintro e w6 ⟨rfl, rfl⟩)
      | (go_at_call 6; (with_reducible refine HCx.out.mono ?_); rintro e w7 ⟨rfl, hb⟩
         have HB7 := Lib.hid (bnext HW5.out hb)
         clear hb))
    go_ret
    exact ⟨rfl, HB7.out⟩
set_option maxRecDepth 20000 in
set_option maxHeartbeats 4000000 in
theorem worldRound_out (KC : WorldChecks) (l : List ClassD) (i k : Int) (A : Option Addr) (n c : Nat) (w : World) (T : Tab w) (R : ClassRow w A n c l) (NA : A = none → n = 0 ∧ c = 0) (hu : ∀ x ∈ l, x.upto 140737488351232) (hw : ∀ x ∈ l, x.wf) (hn : n ≤ 140737488351232)
    (q : Nat) (hq : WorldIs l q) (h : n = 0 ∨ (0 < n ∧ q ≠ 0)) :
    Calls Tryd.prog 4 #[.slice A n c, .int .i64 i, .int .i64 k] w fun e w' => e = .returned (.bool true) ∧ Below w.heap.size w w' := by
  have HCk := Lib.hid (KC l q A n c w hq T R NA hu hw (by omega))
  clear KC T R NA hu hw hq
  rcases h with rfl | ⟨h0, h⟩
  · clear HCk
    go_enter Tryd.func4, Tryd.ntmps4
    go_wp2_with (first
      | (go_at_call 11; (with_reducible refine (named_any _).mono ?_); rintro e w1 ⟨rfl, rfl⟩))
    go_ret
    exact ⟨rfl, Below.refl _ _⟩
  · have hne0 : ((n : Int) == 0) = false := by rw [beq_eq_false_iff_ne]; omega
    have hne : (q != 0) = true := by rw [bne_iff_ne]; exact h
    clear h
    go_enter Tryd.func4, Tryd.ntmps4
    go_wp2_with (first
      | (go_at_call 11; (with_reducible refine (named_any _).mono ?_); rintro e w1 ⟨rfl, rfl⟩)
      | (go_at_call 6; (with_reducible refine HCk.out.mono ?_); rintro e w2 ⟨rfl, hb⟩
         have HB2 := Lib.hid hb
         clear hb))
    go_ret
    exact ⟨rfl, HB2.out⟩
theorem worldRound_walk (KC : WorldChecks) (KS : WorldSupers) (l : List ClassD) (i k : Int) (A : Option Addr) (n c : Nat) (w : World) (T : Tab w) (R : ClassRow w A n c l) (NA : A = none → n = 0 ∧ c = 0) (hu : ∀ x ∈ l, x.upto 140737488351232) (hw : ∀ x ∈ l, x.wf) (hn : n ≤ 140737488351232) :
    Calls Tryd.prog 4 #[.slice A n c, .int .i64 i, .int .i64 k] w fun e w' => e = .returned (.bool true) ∧ Below w.heap.size w w' := by
  obtain ⟨q, hq⟩ := world_is l
  rcases Nat.eq_zero_or_pos n with h0 | h0
  · exact worldRound_out KC l i k A n c w T R NA hu hw hn q hq (.inl h0)
  · by_cases h : q = 0
    · subst h
      obtain ⟨b, o, rfl, _, _⟩ := SRow.at_ R h0
      exact worldRound_in KC KS l i k b o n c w T R hu hw hn hq h0
    · exact worldRound_out KC l i k A n c w T R NA hu hw hn q hq (.inr ⟨h0, h⟩)
end Go.Proofs.YthcjdkjjjlpjaaaDoor
