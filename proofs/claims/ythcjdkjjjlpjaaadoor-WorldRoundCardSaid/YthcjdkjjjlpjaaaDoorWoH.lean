/- The walk of coffeehouselaw2.WorldUp, from what package world says. -/
import Derived.Test.YthcjdkjjjlpjaaaDoorWoI
import Derived.Test.YthcjdkjjjlpjaaaDoorWoT
import Derived.BigQuiet
namespace Go.Proofs.YthcjdkjjjlpjaaaDoor
open Go.ChangeShapes Go.WideShapes Go.ChangeAt Go.RowKit
set_option linter.unusedVariables false
attribute [local go_sem] eqGuard_errV_nil eqGuard_errV_iface eql_errV_nil neq_errV_nil eql_errV_form

theorem err_bad {P : Program} {f : FuncId} {args : Array Value} {w : World} {q : Nat} (h : Calls P f args w fun e w' => e = .returned (errV q) ∧ Below w.heap.size w w') (h0 : q = 0) : Calls P f args w fun e w' => e = .returned .nilIface ∧ Below w.heap.size w w' := by
  subst h0; exact h
set_option maxRecDepth 20000 in
set_option maxHeartbeats 4000000 in
theorem worldUp_out (KC : WorldChecks) (KS : WorldSupers) (l : List ClassD) (i : Int) (A : Option Addr) (n c : Nat) (w : World) (T : Tab w) (R : ClassRow w A n c l) (NA : A = none → n = 0 ∧ c = 0) (hu : ∀ x ∈ l, x.upto 140737488351232) (hw : ∀ x ∈ l, x.wf) (hn : n ≤ 140737488351232)
    (q : Nat) (hq : WorldIs l q) (h : q ≠ 0 ∨ (q = 0 ∧ n = 0)) :
    Calls Tryd.prog 3 #[.slice A n c, .int .i64 i] w fun e w' => e = .returned (.bool true) ∧ Below w.heap.size w w' := by
  have HLi := Lib.hid (fun W T => lived_any KS W T)
  have HCk := fun W T R => KC l q A n c W hq T R NA hu hw (by omega)
  have HT := Lib.hid T
  have HR := Lib.hid R
  clear KC KS T R NA hu hw hq
  rcases h with h | ⟨h, h'⟩
  · have hne : (q != 0) = true := by rw [bne_iff_ne]; exact h
    replace HCk := Lib.hid HCk
    clear h
    go_enter Tryd.func3, Tryd.ntmps3
    go_wp2_with (first
      | (go_at_call 5; (with_reducible refine (HLi.out _ HT.out).mono ?_); rintro e w1 ⟨rfl, hb⟩
         have HB1 := Lib.hid hb
         clear hb)
      | (go_at_call 6; (with_reducible refine (HCk.out _ (HT.out.below HB1.out) (ClassRow.below HR.out HB1.out)).mono ?_); rintro e w2 ⟨rfl, hb⟩
         have HB2 := Lib.hid (bnext HB1.out hb)
         clear hb))
    go_ret
    exact ⟨rfl, HB2.out⟩
  · subst h'
    replace HCk := Lib.hid (fun W T R => err_bad (HCk W T R) h)
    clear h
    go_enter Tryd.func3, Tryd.ntmps3
    go_wp2_with (first
      | (go_at_call 5; (with_reducible refine (HLi.out _ HT.out).mono ?_); rintro e w1 ⟨rfl, hb⟩
         have HB1 := Lib.hid hb
         clear hb)
      | (go_at_call 6; (with_reducible refine (HCk.out _ (HT.out.below HB1.out) (ClassRow.below HR.out HB1.out)).mono ?_); rintro e w2 ⟨rfl, hb⟩
         have HB2 := Lib.hid (bnext HB1.out hb)
         clear hb))
    go_ret
    exact ⟨rfl, HB2.out⟩

theorem Chain.last {l : List ClassD} (hJ : Joined l) {n : List UInt8} {s : List (List UInt8)} (h : Chain l n s) : ∃ t, s = t ++ [objB] := by
  induction h with
  | @top n c h hs =>
    rcases classOf_in h with ⟨rfl, _⟩ | ⟨_, rfl⟩ | ⟨hm, _⟩
    · exact ⟨[], rfl⟩
    · exact absurd hs (by decide)
    · exact absurd hs (link_zero (hJ.link hm)).1
  | up _ _ _ ih =>
    obtain ⟨t, rfl⟩ := ih
    exact ⟨_ :: t, rfl⟩
theorem Chain.above {l : List ClassD} {x : ClassD} {s : List (List UInt8)} (hc : classOf l x.nm = some x) (hs : x.su ≠ []) (h : Chain l x.nm s) : ∃ t, s = x.nm :: t ∧ Chain l x.su t := by
  cases h with
  | top h' hs' => rw [hc] at h'; obtain rfl := Option.some.inj h'; exact absurd hs' hs
  | up h' _ k => rw [hc] at h'; obtain rfl := Option.some.inj h'; exact ⟨_, rfl, k⟩
theorem any_yes {s : List (List UInt8)} {x : List UInt8} (h : x ∈ s) : s.any (· == x) = true := any_mem.2 h

/-- A list of texts without its first element. -/
def tailA (A : Option Addr) (c : Nat) : Option Addr := if c = 1 then A else A.map (·.add (1 * 1))
theorem tail_str (A : Option Addr) (n c : Nat) (h : 1 ≤ n) (W : World) : (Instr.sliceAt 27 (.slice A n c) (some (.int .i64 1)) none none).run Tryd.prog W = .ok (.slice (tailA A c) (n - 1) (c - 1)) W := by
  have e : Tryd.prog.underlying 27 = some (.slice (Tryd.prog.elem 27)) := by kernel_rfl
  have e2 : Tryd.prog.elem 27 = 9 := by kernel_rfl
  rw [run_sliceAt_slice W _ _ _ _ _ e, run_slice_l W _ A n c e .i64 1 (by omega) (by omega), e2, size_str]
  rfl
theorem StrRow.tail {w : World} {A : Option Addr} {n c : Nat} {x : List UInt8} {r : List (List UInt8)} (h : StrRow w A n c (x :: r)) : StrRow w (tailA A c) (n - 1) (c - 1) r := by
  obtain ⟨h1, h2, h3⟩ := h
  have h1' : r.length + 1 = n := h1
  refine ⟨by omega, by omega, fun h0 => ?_⟩
  obtain ⟨b, o, rfl, hb, hc⟩ := h3 (by omega)
  refine ⟨b, o + 1, ?_, hb, fun j y hy => ?_⟩
  · unfold tailA
    rw [if_neg (by omega)]
    simp [add_spotless]
  · have := hc (j + 1) y (by simpa using hy)
    rw [show o + (j + 1) * 1 = o + 1 + j * 1 by omega] at this
    exact this
set_option maxRecDepth 20000 in
set_option maxHeartbeats 8000000 in
theorem worldUp_in (KC : WorldChecks) (KS : WorldSupers) (KA : WorldAlls) (l : List ClassD) (i : Int) (A : Option Addr) (n c : Nat) (w : World) (T : Tab w) (R : ClassRow w A n c l) (NA : A = none → n = 0 ∧ c = 0) (hu : ∀ x ∈ l, x.upto 140737488351232) (hw : ∀ x ∈ l, x.wf) (hn : n ≤ 140737488351232)
    (hq : WorldIs l 0) (h0 : 0 < n) :
    Calls Tryd.prog 3 #[.slice A n c, .int .i64 i] w fun e w' => e = .returned (.bool true) ∧ Below w.heap.size w w' := by
  have hV : Valid l := worldIs_zero hq
  have hl : l.length = n := R.1
  have hn10 : n ≤ 10 := by have := hV.1.1; omega
  obtain ⟨t, htn, htm⟩ := pick_at i n h0
  have hcv := fun W => conv_uint i W
  have hcn := fun W => conv_uint (n : Int) W
  rw [wrap_small_u n (by omega)] at hcn
  have hrm := fun W => rem_uint _ n t h0 htm W
  have ht1 : t < l.length := by omega
  have hxm := List.getElem_mem ht1
  obtain ⟨x, hx⟩ : ∃ x, x = l[t] := ⟨_, rfl⟩
  rw [← hx] at hxm
  have hxc := classOf_mem hV.1.2.1 hxm
  have hxs := (link_zero (hV.1.link hxm)).1
  have hkx : knownB l x.nm = true := by unfold knownB; rw [hxc]; rfl
  have hks : knownB l x.su = true := hV.1.known (su_up hxc hxs)
  have hxu := hu x hxm
  have HLi := Lib.hid (fun W T => lived_any KS W T)
  have HCk := Lib.hid (fun W T R => err_bad (KC l 0 A n c W hq T R NA hu hw (by omega)) rfl)
  have HS1 := Lib.hid (fun W T R => (KS l 0 x.nm A n c W hq T R NA hu hw (by omega) hxu.1).mono fun e w' h => lists_ok (namedQ_zero.2 ⟨rfl, hkx⟩) h)
  have HS2 := Lib.hid (fun W T R => (KS l 0 x.su A n c W hq T R NA hu hw (by omega) hxu.2.1).mono fun e w' h => lists_ok (namedQ_zero.2 ⟨rfl, hks⟩) h)
  have HAl := Lib.hid (fun W T R => (KA l 0 x.nm A n c W hq T R NA hu hw (by omega) hxu.1).mono fun e w' h => lists_ok (namedQ_zero.2 ⟨rfl, hkx⟩) h)
  obtain ⟨s, hs, hs12⟩ := chain_is hV hkx
  obtain ⟨r, hsr, hr⟩ := hs.above hxc hxs
  obtain ⟨z, hz⟩ := hs.last hV.1
  have HSs := Lib.hid hs
  have HRr := Lib.hid hr
  have HSr := Lib.hid hsr
  have HZ := Lib.hid hz
  have HX := Lib.hid hx
  have HT := Lib.hid T
  have HR := Lib.hid R
  have hlen : s.length = r.length + 1 := by rw [hsr]; rfl
  have hpos : 1 ≤ s.length := by omega
  have hne0 : ((s.length : Int) == 0) = false := by rw [beq_eq_false_iff_ne]; omega
  have hwr : IntKind.i64.wrap ((s.length : Int) - 1) = ((s.length - 1 : Nat) : Int) := by rw [IntKind.wrap_i64]; omega
  replace hlen := Lib.hid hlen
  clear hV hl hxm hxc hxs hkx hks hxu KC KS KA T R NA hu hw hq hs hsr hr hz hx
  go_enter Tryd.func3, Tryd.ntmps3
  go_wp2_with (first
    | (go_at_call 5; (with_reducible refine (HLi.out _ HT.out).mono ?_); rintro e w1 ⟨rfl, hb⟩
       have HB1 := Lib.hid hb
       clear hb)
    | (go_at_call 6; (with_reducible refine (HCk.out _ (HT.out.below HB1.out) (ClassRow.below HR.out HB1.out)).mono ?_); rintro e w2 ⟨rfl, hb⟩
       have HB2 := Lib.hid (bnext HB1.out hb)
       obtain ⟨b1, o1, rfl, hb1, hx1⟩ := SRow.at_ (ClassRow.below HR.out HB2.out) htn
       rw [← HX.out] at hx1
       obtain ⟨c0, c1, ⟨A1, i1, j1, c2, R1, N1⟩, c3, ⟨A2, i2, j2, c4, R2, N2⟩, ⟨A3, i3, j3, c5, R3, N3⟩⟩ := hx1
       have HB3 := Lib.hid (HB2.out.alloc HB2.out.size (.cells #[.string (bs x.nm), .string (bs x.su), .slice A1 i1 j1, .bool x.face, .slice A2 i2 j2, .slice A3 i3 j3] 31))
       have HXB := Lib.hid (cbox_at w2 x A1 i1 j1 A2 i2 j2 A3 i3 j3 31 (0, 0))
       clear hb R1 R2 R3 N1 N2 N3)
    | (go_at_call 7; (with_reducible refine (HS1.out _ (HT.out.below HB3.out) (ClassRow.below HR.out HB3.out)).mono ?_); rintro e w4 ⟨A4, s4, d4, rfl, hv, hrel, _, hb⟩
       obtain rfl := HSs.out.one hrel
       have HV4 := Lib.hid hv.row
       have hcut := fun W => tail_str A4 s.length d4 hpos W
       have HB4 := Lib.hid (bnext HB3.out hb)
       have HX4 := Lib.hid (HXB.out.below hb)
       obtain ⟨q0, q1, q2, q3, q4, q5, q6⟩ := HXB.out.below hb
       clear hv hb hrel)
    | (go_at_call 7; (with_reducible refine (HS2.out _ (HT.out.below HB4.out) (ClassRow.below HR.out HB4.out)).mono ?_); rintro e w5 ⟨A5, s5, d5, rfl, hv, hrel, _, hb⟩
       obtain rfl := HRr.out.one hrel
       have HV5 := Lib.hid hv.row
       have HV45 := Lib.hid (HV4.out.below hb)
       have HB5 := Lib.hid (bnext HB4.out hb)
       have HX5 := Lib.hid (HX4.out.below hb)
       obtain ⟨r0, r1, r2, r3, r4, r5, r6⟩ := HX4.out.below hb
       clear hv hb hrel)
    | (go_at_call 8; (with_reducible refine (HAl.out _ (HT.out.below HB5.out) (ClassRow.below HR.out HB5.out)).mono ?_); rintro e w6 ⟨A6, s6, d6, rfl, hv, hrel, h13, hb⟩
       have HV6 := Lib.hid hv.row
       have HS6 := Lib.hid hrel
       have HV46 := Lib.hid (HV45.out.below hb)
       have HV56 := Lib.hid (HV5.out.below hb)
       have HB6 := Lib.hid (bnext HB5.out hb)
       have HX6 := Lib.hid (HX5.out.below hb)
       obtain ⟨t0, t1, t2, t3, t4, t5, t6⟩ := HX5.out.below hb
       obtain ⟨b4, o4, rfl, hb4, hf4⟩ := SRow.at_ HV46.out (j := 0) (by omega)
       clear hv hb hrel))
  have HTl := Lib.hid (StrRow.tail (x := x.nm) (r := r) (by rw [← HSr.out]; exact HV46.out))
  go_loopw [13] (fun k wr => ∃ a : Nat, a ≤ s.length ∧ k = .int .i64 a ∧ wr = w6) (fun k _ => s.length - (intOf k).toNat)
  case atStart => exact ⟨0, Nat.zero_le _, rfl, rfl⟩
  case round =>
    obtain ⟨a, ha, rfl, rfl⟩ := hrel
    by_cases hlt : a < s.length
    · obtain ⟨b2, o2, e2, hb2, hx2⟩ := SRow.at_ HV46.out hlt
      rw [Nat.mul_one] at hx2
      unfold StrAt at hx2
      have hb42 : b4 = b2 ∧ o4 = o2 := by simpa using e2
      obtain ⟨rfl, rfl⟩ := hb42
      have hm : s[a] ∈ s6 := (HS6.out.2 _).2 (HSs.out.mem _ (List.getElem_mem hlt))
      have HIn := rin_any A6 s6.length d6 s6 s[a] _ HV6.out (by omega)
      rw [any_yes hm] at HIn
      replace HIn := Lib.hid HIn
      generalize s[a] = z0 at *
      clear hm e2
      go_wp2_with (first
        | (go_at_call 9; (with_reducible refine HIn.out.mono ?_); rintro e w9 ⟨rfl, rfl⟩))
      go_roundw
      case rel => exact ⟨a + 1, by omega, by go_num, trivial⟩
      case measure => first | (simp [intOf]; omega) | simp [intOf]
    · obtain rfl : a = s.length := by omega
      have hz0 : s[0]'(by omega) = x.nm := by have := HSr.out; simp [this]
      have hz1 : s[s.length - 1]'(by omega) = objB := by have := HZ.out; simp [this]
      obtain ⟨b5, o5, e5, _, f5⟩ := SRow.at_ HV46.out (j := s.length - 1) (by omega)
      obtain ⟨b6, o6, e6, _, f6⟩ := SRow.at_ HV46.out (j := 0) (by omega)
      have h45 : b4 = b5 ∧ o4 = o5 := by simpa using e5
      have h46 : b4 = b6 ∧ o4 = o6 := by simpa using e6
      obtain ⟨rfl, rfl⟩ := h45
      obtain ⟨rfl, rfl⟩ := h46
      rw [hz1, Nat.mul_one] at f5
      rw [hz0, Nat.zero_mul, Nat.add_zero] at f6
      unfold StrAt at f5 f6
      have e7 : ((bs objB).toList == [79, 98, 106, 101, 99, 116]) = true := lst_yes rfl
      clear hz0 hz1 e5 e6
      go_wp2_with (first
        | (go_at_call 10; (with_reducible refine (texts_same_ _ _ _ _ _ _ _ _ HTl.out HV56.out (by omega)).mono ?_); rintro e w9 ⟨rfl, k, rfl⟩))
      go_quiet (fail)
      go_wp2
      go_ret
      exact ⟨rfl, below_drawn (below_drawn HB6.out _) _⟩
theorem worldUp_walk (KC : WorldChecks) (KS : WorldSupers) (KA : WorldAlls) (l : List ClassD) (i : Int) (A : Option Addr) (n c : Nat) (w : World) (T : Tab w) (R : ClassRow w A n c l) (NA : A = none → n = 0 ∧ c = 0) (hu : ∀ x ∈ l, x.upto 140737488351232) (hw : ∀ x ∈ l, x.wf) (hn : n ≤ 140737488351232) :
    Calls Tryd.prog 3 #[.slice A n c, .int .i64 i] w fun e w' => e = .returned (.bool true) ∧ Below w.heap.size w w' := by
  obtain ⟨q, hq⟩ := world_is l
  by_cases h : q = 0
  · subst h
    rcases Nat.eq_zero_or_pos n with h0 | h0
    · exact worldUp_out KC KS l i A n c w T R NA hu hw hn 0 hq (.inr ⟨rfl, h0⟩)
    · exact worldUp_in KC KS KA l i A n c w T R NA hu hw hn hq h0
  · exact worldUp_out KC KS l i A n c w T R NA hu hw hn q hq (.inl h)
end Go.Proofs.YthcjdkjjjlpjaaaDoor
