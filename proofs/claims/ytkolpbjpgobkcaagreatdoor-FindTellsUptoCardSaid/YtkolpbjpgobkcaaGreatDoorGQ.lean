/- Package world: checkParents. Package world: mark, above. -/
import Derived.Test.YtkolpbjpgobkcaaGreatDoorGP
import Derived.Maps.RangeWalk
namespace Go.Proofs.YtkolpbjpgobkcaaGreatDoor
open Go.ChangeShapes Go.WideShapes Go.ChangeAt Go.RowKit Go.Maps
set_option linter.unusedVariables false
attribute [local go_sem] eqGuard_errV_nil eqGuard_errV_iface eql_errV_nil neq_errV_nil eql_errV_form

section
variable {l : List ClassD} {c : ClassD}
theorem linkF_all (h : c.su ≠ []) (h0 : ∀ x ∈ c.su :: c.faces, knownB l x = true) : linkF l c = if (faceB l c.su || c.faces.any (fun n => !faceB l n)) = true then 7 else if (c.face && c.su != objB) = true then 7 else 0 := by
  unfold linkF
  rw [if_neg h, if_neg (by rw [List.all_eq_true.2 h0]; simp)]
theorem linkF_super (h : c.su ≠ []) (h0 : ∀ x ∈ c.su :: c.faces, knownB l x = true) (h1 : faceB l c.su = true) : linkF l c = 7 := by
  rw [linkF_all h h0, if_pos (by rw [h1, Bool.true_or])]
theorem linkF_own (h : c.su ≠ []) (h0 : ∀ x ∈ c.su :: c.faces, knownB l x = true) (h1 : c.face = true) (h2 : c.su ≠ objB) : linkF l c = 7 := by
  rw [linkF_all h h0]
  split
  · rfl
  · rw [if_pos (by rw [h1, Bool.true_and, bne_iff_ne]; exact h2)]
theorem linkF_elem (h : c.su ≠ []) (h0 : ∀ x ∈ c.su :: c.faces, knownB l x = true) {k : Nat} (hk : k < c.faces.length) (h1 : faceB l c.faces[k] = false) : linkF l c = 7 := by
  rw [linkF_all h h0, if_pos]
  rw [Bool.or_eq_true]
  exact .inr (List.any_eq_true.2 ⟨_, List.getElem_mem hk, by rw [h1]; rfl⟩)
theorem linkF_good (h : c.su ≠ []) (h0 : ∀ x ∈ c.su :: c.faces, knownB l x = true) (h1 : faceB l c.su = false) (h2 : c.face = false ∨ c.su = objB) (h3 : ∀ (k : Nat) (hk : k < c.faces.length), faceB l c.faces[k] = true) : linkF l c = 0 := by
  rw [linkF_all h h0, if_neg, if_neg]
  · rcases h2 with h2 | h2
    · rw [h2, Bool.false_and]; simp
    · rw [h2]; simp
  · rw [h1, Bool.false_or, Bool.not_eq_true, List.any_eq_false]
    intro x hx
    obtain ⟨k, hk, rfl⟩ := List.getElem_of_mem hx
    rw [h3 k hk]
    simp
end
theorem field_face (a b : ByteArray) (A B C : Option Addr) (i j k n m o : Nat) (f : Bool) (W : World) : (Instr.field 51 (.agg #[.string a, .string b, .slice A i j, .bool f, .slice B k n, .slice C m o]) 3).run Tryz.prog W = .ok (.bool f) W := by kernel_rfl
attribute [local go_sem] field_face
theorem owns_below {w w' : World} {b n : Nat} {D : DataW Value} (h : w.ownsMap Tryz.prog 9 readV b n D) (hb : Below w.heap.size w w') : w'.ownsMap Tryz.prog 9 readV b n D := h.kept (below_grown hb) (by simp)

set_option maxRecDepth 20000 in
set_option maxHeartbeats 8000000 in
theorem checkParents_any (l : List ClassD) (w0 : World) (b N : Nat) (x : ClassD) (v : Value) (w : World) (hM : ClassMap w0 w b N l) (hx : Held w x v) (hnm : x.nm ≠ objB) (hf : x.faces.length ≤ 1000) (hu : x.upto 140737488351232) :
    Calls Tryz.prog 54 #[.map (some b), v] w fun e w' => e = .returned (errV (linkF l x)) ∧ Below w.heap.size w w' := by
  have HHx := Lib.hid hx
  obtain ⟨A1, i1, j1, A2, i2, j2, A3, i3, j3, rfl, RF, _, _, NF, _, _⟩ := hx
  have hl1 : x.faces.length = i1 := RF.1
  obtain ⟨D, hown, hsay⟩ := hM
  have HB0 := Lib.hid (al1 w (.cells #[.string (bs x.nm), .string (bs x.su), .slice A1 i1 j1, .bool x.face, .slice A2 i2 j2, .slice A3 i3 j3] 51))
  have HX := Lib.hid (cbox_at w x A1 i1 j1 A2 i2 j2 A3 i3 j3 51 (0, 0))
  have HO := Lib.hid (owns_below hown HB0.out)
  have HS := Lib.hid hsay
  have HRF := Lib.hid (RF.below HB0.out)
  have HF8 := Lib.hid hl1
  clear RF NF hown hsay
  by_cases hs : x.su = []
  · have he := emptyB_yes hs
    have HV := Lib.hid (linkF_bare (l := l) hs)
    clear hs hu hf hl1
    go_enter Tryz.func54, Tryz.ntmps54
    go_wp2_with fail
    go_ret
    exact ⟨ret_err (by rw [HV.out]; rfl), HB0.out⟩
  · have he := emptyB_no hs
    have HSu := Lib.hid hs
    have HPa := Lib.hid (fun (W : World) (hB : Below w.heap.size w W) => parents_any x _ W (HHx.out.below hB) hf)
    have HU := Lib.hid (show ∀ z ∈ x.su :: x.faces, z.length ≤ maxLen from fun z hz => by
      rcases List.mem_cons.1 hz with rfl | hz
      · exact Nat.le_trans hu.2.1 (by decide)
      · exact Nat.le_trans (hu.2.2.1.1 z hz) (by decide))
    obtain ⟨ps, hps⟩ : ∃ ps, ps = x.pars := ⟨_, rfl⟩
    have hp2 : ps = x.su :: x.faces := by rw [hps]; unfold ClassD.pars; rw [if_neg hnm]
    have HP := Lib.hid hp2
    have hp9 : ps.length ≤ 1001 := by rw [hp2]; simp; omega
    rw [← hps] at HPa
    have hi1 : i1 ≤ 1000 := by omega
    clear hs hu hf hps hp2 hl1 hnm
    go_enter Tryz.func54, Tryz.ntmps54
    go_wp2_with (first
      | (go_at_call 63; (with_reducible refine (HPa.out _ HB0.out).mono ?_); rintro e w1 ⟨v1, rfl, hv, hb⟩
         obtain ⟨B, d, rfl⟩ := hv.form
         have HR1 := Lib.hid hv.row
         have HX1 := Lib.hid (HX.out.below hb)
         have HO1 := Lib.hid (owns_below HO.out hb)
         have HRF1 := Lib.hid (HRF.out.below hb)
         have HB1 := Lib.hid (bnext HB0.out hb)
         clear hv hb))
    go_loopw [6, 7, 8, 18] (fun _ _ _ i wr => ∃ k : Nat, k ≤ ps.length ∧ i = .int .i64 k ∧ Hid (∀ (t : Nat) (ht : t < ps.length), t < k → knownB l ps[t] = true) ∧ Hid (Below w1.heap.size w1 wr)) (fun _ _ _ i _ => ps.length - (intOf i).toNat)
    case atStart => exact ⟨0, Nat.zero_le _, rfl, Lib.hid (fun t ht h => by omega), Lib.hid (Below.refl _ _)⟩
    case round =>
      obtain ⟨k, hk, rfl, HT, HB⟩ := hrel
      by_cases hlt : k < ps.length
      · obtain ⟨b1, o1, rfl, hb1, hx1⟩ := SRow.at_ (HR1.out.below HB.out) hlt
        rw [Nat.mul_one] at hx1
        unfold StrAt at hx1
        have hy := HU.out ps[k] (by rw [← HP.out]; exact List.getElem_mem hlt)
        have HF := Lib.hid (show knownB l ps[k] = false → linkF l x = 3 from fun h => by
          have hk1 : k < (x.su :: x.faces).length := by rw [← HP.out]; exact hlt
          refine linkF_none HSu.out hk1 ?_
          rw [← h]
          congr 1
          simp only [HP.out])
        have HNx := Lib.hid (show knownB l ps[k] = true → ∀ (t : Nat) (ht : t < ps.length), t < k + 1 → knownB l ps[t] = true from fun h t ht htk => by
          by_cases e : t = k
          · subst e; exact h
          · exact HT.out t ht (by omega))
        obtain ⟨hhas, v, hat, hhv⟩ := HS.out.2 ps[k]
        obtain ⟨A4, i4, j4, A5, i5, j5, A6, i6, j6, rfl, _⟩ := hhv
        generalize ps[k] = z at *
        have HY := Lib.hid hy
        have HAt := Lib.hid hat
        have HOr := Lib.hid (owns_below HO1.out HB.out)
        have HBw := Lib.hid (bnext HB1.out HB.out)
        have hzw := HBw.out.size
        have hzr := HB.out.size
        clear hat hy
        cases hkn : knownB l z with
        | false =>
          have HV := Lib.hid (HF.out hkn)
          rw [hkn] at hhas
          have HHa := Lib.hid hhas
          clear HF HNx hkn hhas
          go_wp2_with (first
            | (at_lookup; refine wpList_lookup_vok _ rfl _ _ rfl b _ D rfl HOr.out z rfl HY.out _ HAt.out false HHa.out ?_))
          go_ret
          exact ⟨ret_err (by rw [HV.out]; rfl), HBw.out.alloc hzw _⟩
        | true =>
          have HT2 := Lib.hid (HNx.out hkn)
          rw [hkn] at hhas
          have HHa := Lib.hid hhas
          have HB2 := Lib.hid (HB.out.alloc hzr (.cells #[.string (bs (classD l z).nm), .string (bs (classD l z).su), .slice A4 i4 j4, .bool (classD l z).face, .slice A5 i5 j5, .slice A6 i6 j6] 51))
          clear HF HNx hkn hhas
          go_wp2_with (first
            | (at_lookup; refine wpList_lookup_vok _ rfl _ _ rfl b _ D rfl HOr.out z rfl HY.out _ HAt.out true HHa.out ?_))
          go_roundw
          case rel => exact ⟨k + 1, by omega, by go_num, HT2, HB2⟩
          case measure => first | (simp [intOf]; omega) | simp [intOf]
      · obtain rfl : k = ps.length := by omega
        have HK := Lib.hid (show ∀ z ∈ x.su :: x.faces, knownB l z = true from fun z hz => by
          rw [← HP.out] at hz
          obtain ⟨t, ht, rfl⟩ := List.getElem_of_mem hz
          exact HT.out t ht ht)
        have hy := HU.out x.su (by simp)
        have HY := Lib.hid hy
        obtain ⟨_, v, hat, hhv⟩ := HS.out.2 x.su
        obtain ⟨A4, i4, j4, A5, i5, j5, A6, i6, j6, rfl, _⟩ := hhv
        rw [← faceB_D] at hat
        have HOr := Lib.hid (owns_below HO1.out HB.out)
        have HBw := Lib.hid (bnext HB1.out HB.out)
        obtain ⟨q0, q1, q2, q3, q4, q5, q6⟩ := HX1.out.below HB.out
        have HRFr := Lib.hid (HRF1.out.below HB.out)
        clear HT hy
        cases hsf : faceB l x.su with
        | true =>
          rw [hsf] at hat
          have HAt := Lib.hid hat
          have HV := Lib.hid (linkF_super HSu.out HK.out hsf)
          clear hat hsf
          go_wp2_with (first
            | (at_lookup; refine wpList_lookup_v _ rfl _ _ rfl b _ D rfl HOr.out x.su rfl HY.out _ HAt.out ?_))
          go_ret
          exact ⟨ret_err (by rw [HV.out]; rfl), HBw.out⟩
        | false =>
          rw [hsf] at hat
          have HAt := Lib.hid hat
          clear hat
          rcases (show (x.face = true ∧ x.su ≠ objB) ∨ (x.face = false) ∨ (x.face = true ∧ x.su = objB) by cases h : x.face <;> by_cases h2 : x.su = objB <;> simp [h2]) with ⟨hxf, hso⟩ | hxf | ⟨hxf, hso⟩
          · have HV := Lib.hid (linkF_own HSu.out HK.out hxf hso)
            have e1 : ((bs x.su).toList == [79, 98, 106, 101, 99, 116]) = false := lst_no hso
            have e2 : ((bs x.su).toList != [79, 98, 106, 101, 99, 116]) = true := by rw [bne, e1]; rfl
            rw [hxf] at q4
            clear hsf hso hxf
            go_wp2_with (first
              | (at_lookup; refine wpList_lookup_v _ rfl _ _ rfl b _ D rfl HOr.out x.su rfl HY.out _ HAt.out ?_))
            go_ret
            exact ⟨ret_err (by rw [HV.out]; rfl), HBw.out⟩
          all_goals
            have HG := Lib.hid (fun h3 => linkF_good HSu.out HK.out hsf (by first | exact .inl hxf | exact .inr hso) h3)
            have e1 : x.su = objB → ((bs x.su).toList == [79, 98, 106, 101, 99, 116]) = true := fun h => lst_yes h
            first | replace e1 := e1 hso | clear e1
            rw [hxf] at q4
            clear hsf hxf
            try clear hso
            go_wp2_with (first
              | (at_lookup; refine wpList_lookup_v _ rfl _ _ rfl b _ D rfl HOr.out x.su rfl HY.out _ HAt.out ?_))
            go_loop [10, 50] (fun _ i => ∃ a : Nat, a ≤ i1 ∧ i = .int .i64 a ∧ Hid (∀ (t : Nat) (ht : t < x.faces.length), t < a → faceB l x.faces[t] = true)) (fun _ i => i1 - (intOf i).toNat)
            case atStart => exact ⟨0, Nat.zero_le _, rfl, Lib.hid (fun t ht h => by omega)⟩
            case round =>
              obtain ⟨a, ha, rfl, HTa⟩ := hrel
              by_cases hlt2 : a < i1
              · obtain ⟨b1, o1, rfl, hb1, hx1⟩ := SRow.at_ HRFr.out hlt2
                rw [Nat.mul_one] at hx1
                unfold StrAt at hx1
                have ha1 : a < x.faces.length := by rw [HF8.out]; exact hlt2
                have HYa := Lib.hid (HU.out x.faces[a] (by simp))
                have HE := Lib.hid (show faceB l x.faces[a] = false → _ from fun h => linkF_elem HSu.out HK.out ha1 h)
                have HNa := Lib.hid (show faceB l x.faces[a] = true → ∀ (t : Nat) (ht : t < x.faces.length), t < a + 1 → faceB l x.faces[t] = true from fun h t ht hta => by
                  by_cases e : t = a
                  · subst e; exact h
                  · exact HTa.out t ht (by omega))
                obtain ⟨_, v, hat, hhv⟩ := HS.out.2 x.faces[a]
                obtain ⟨A7, i7, j7, A8, i8, j8, A9, i9, j9, rfl, _⟩ := hhv
                rw [← faceB_D] at hat
                generalize x.faces[a] = z at *
                cases hzf : faceB l z with
                | false =>
                  rw [hzf] at hat
                  have HAz := Lib.hid hat
                  have HV := Lib.hid (HE.out hzf)
                  clear hat hzf HE HNa
                  go_wp2_with (first
                    | (at_lookup; refine wpList_lookup_v _ rfl _ _ rfl b _ D rfl HOr.out z rfl HYa.out _ HAz.out ?_))
                  go_ret
                  exact ⟨ret_err (by rw [HV.out]; rfl), HBw.out⟩
                | true =>
                  rw [hzf] at hat
                  have HAz := Lib.hid hat
                  have HTb := Lib.hid (HNa.out hzf)
                  clear hat hzf HE HNa
                  go_wp2_with (first
                    | (at_lookup; refine wpList_lookup_v _ rfl _ _ rfl b _ D rfl HOr.out z rfl HYa.out _ HAz.out ?_))
                  go_round
                  case rel => exact ⟨a + 1, by omega, by go_num, HTb⟩
                  case measure => first | (simp [intOf]; omega) | simp [intOf]
              · obtain rfl : a = i1 := by omega
                have HV := Lib.hid (HG.out (fun t ht => HTa.out t ht (by have := HF8.out; omega)))
                go_wp2_with fail
                go_ret
                exact ⟨ret_err (by rw [HV.out]; rfl), HBw.out⟩
end Go.Proofs.YtkolpbjpgobkcaaGreatDoor
namespace Go.Proofs.YtkolpbjpgobkcaaGreatDoor
open Go.ChangeShapes Go.WideShapes Go.ChangeAt Go.RowKit Go.Maps
set_option linter.unusedVariables false

/-- From pre to out: us and all above them, none twice. -/
def Marked (l : List ClassD) (us pre out : List (List UInt8)) : Prop :=
  out.Nodup ∧ (∀ z ∈ out, knownB l z = true) ∧ (∀ z ∈ pre, z ∈ out) ∧ (∀ z ∈ us, z ∈ out) ∧ ∀ z ∈ out, z ∈ pre ∨ ((∃ u ∈ us, z = u ∨ Up l u z) ∧ ∀ t ∈ upsOf l z, t ∈ out)
section
variable {l : List ClassD} {us pre out : List (List UInt8)}
theorem Marked.start (hn : pre.Nodup) (hk : ∀ z ∈ pre, knownB l z = true) : Marked l [] pre pre := ⟨hn, hk, fun z hz => hz, fun z hz => (by cases hz), fun z hz => .inl hz⟩
theorem Marked.len (h : Marked l us pre out) (hJ : Joined l) : out.length ≤ 12 := Nat.le_trans (nodup_le h.1 fun x hx => known_iff.1 (h.2.1 x hx)) (names_len hJ.1)
theorem Marked.skip (h : Marked l us pre out) {y : List UInt8} (hy : y ∈ out) : Marked l (us ++ [y]) pre out := by
  obtain ⟨h1, h2, h3, h4, h5⟩ := h
  refine ⟨h1, h2, h3, fun z hz => ?_, fun z hz => ?_⟩
  · rcases List.mem_append.1 hz with hz | hz
    · exact h4 z hz
    · obtain rfl := List.mem_singleton.1 hz; exact hy
  · rcases h5 z hz with h | ⟨⟨u, hu, h⟩, k⟩
    · exact .inl h
    · exact .inr ⟨⟨u, List.mem_append_left _ hu, h⟩, k⟩
theorem Marked.call (h : Marked l us pre out) {y : List UInt8} {out2 : List (List UInt8)} (h2 : Marked l (upsOf l y) (out ++ [y]) out2) : Marked l (us ++ [y]) pre out2 := by
  obtain ⟨a1, a2, a3, a4, a5⟩ := h
  obtain ⟨b1, b2, b3, b4, b5⟩ := h2
  have hin : ∀ z ∈ out, z ∈ out2 := fun z hz => b3 z (List.mem_append_left _ hz)
  have hy : y ∈ out2 := b3 y (List.mem_append_right _ (by simp))
  refine ⟨b1, b2, fun z hz => hin z (a3 z hz), fun z hz => ?_, fun z hz => ?_⟩
  · rcases List.mem_append.1 hz with hz | hz
    · exact hin z (a4 z hz)
    · obtain rfl := List.mem_singleton.1 hz; exact hy
  · rcases b5 z hz with hp | ⟨⟨u, hu, hz2⟩, k⟩
    · rcases List.mem_append.1 hp with hp | hp
      · rcases a5 z hp with h | ⟨⟨u, hu, h⟩, k⟩
        · exact .inl h
        · exact .inr ⟨⟨u, List.mem_append_left _ hu, h⟩, fun t ht => hin t (k t ht)⟩
      · obtain rfl := List.mem_singleton.1 hp
        exact .inr ⟨⟨z, List.mem_append_right _ (by simp), .inl rfl⟩, fun t ht => b4 t ht⟩
    · refine .inr ⟨⟨y, List.mem_append_right _ (by simp), .inr ?_⟩, k⟩
      rcases hz2 with rfl | hz2
      · exact .one hu
      · exact Up.ahead hu hz2
theorem Marked.all (h : Marked l us [] out) (z : List UInt8) : z ∈ out ↔ ∃ u ∈ us, z = u ∨ Up l u z := by
  obtain ⟨h1, h2, h3, h4, h5⟩ := h
  have hc : ∀ x ∈ out, ∀ t ∈ upsOf l x, t ∈ out := fun x hx => by
    rcases h5 x hx with h | h
    · cases h
    · exact h.2
  constructor
  · intro hz
    rcases h5 z hz with h | h
    · cases h
    · exact h.1
  · rintro ⟨u, hu, rfl | hz⟩
    · exact h4 _ hu
    · exact hz.within (s := (· ∈ out)) (hc u (h4 u hu)) hc
theorem up_iff (a z : List UInt8) : Up l a z ↔ ∃ u ∈ upsOf l a, z = u ∨ Up l u z := by
  constructor
  · intro h
    induction h with
    | one h => exact ⟨_, h, .inl rfl⟩
    | more _ k ih =>
      obtain ⟨u, hu, rfl | h⟩ := ih
      · exact ⟨_, hu, .inr (.one k)⟩
      · exact ⟨u, hu, .inr (.more h k)⟩
  · rintro ⟨u, hu, rfl | h⟩
    · exact .one hu
    · exact Up.ahead hu h
/-- What parents says of a class that is there. -/
theorem pars_of (hJ : Joined l) {y : List UInt8} {c : ClassD} (h : classOf l y = some c) : c.pars = upsOf l y ∧ c.nm = y := by
  have hn := classOf_nm h
  rw [upsOf_some h]
  refine ⟨?_, hn⟩
  unfold ClassD.pars ClassD.ups
  rcases classOf_in h with ⟨rfl, rfl⟩ | ⟨rfl, rfl⟩ | ⟨hm, _⟩
  · rfl
  · rfl
  · obtain ⟨h1, _⟩ := link_zero (hJ.link hm)
    rw [if_neg h1, if_neg]
    · rfl
    · intro e
      have hcl := classOf_mem hJ.2.1 hm
      rw [e, classOf_obj] at hcl
      have := (Option.some.inj hcl).symm
      rw [this] at h1
      exact h1 rfl
theorem known_size (hu : ∀ c ∈ l, c.upto 140737488351232) {y : List UInt8} (h : knownB l y = true) : y.length ≤ 140737488351232 := by
  have := known_iff.1 h
  unfold namesL at this
  rcases List.mem_cons.1 this with rfl | h
  · decide
  · rcases List.mem_cons.1 h with rfl | h
    · decide
    · obtain ⟨c, hc, rfl⟩ := List.mem_map.1 h
      exact (hu c hc).1
theorem known_short (hu : ∀ c ∈ l, c.upto 140737488351232) {y : List UInt8} (h : knownB l y = true) : y.length ≤ maxLen := Nat.le_trans (known_size hu h) (by decide)
end

def MarkSays (l : List ClassD) (us pre : List (List UInt8)) (g : Nat) (w : World) (e : Ending) (w' : World) : Prop :=
  e = .returned (.tuple #[]) ∧ ∃ out, Marked l us pre out ∧ NameSet w' g out.length out ∧ w.grownBy w' (some g)
set_option maxRecDepth 20000 in
set_option maxHeartbeats 8000000 in
theorem mark_any (l : List ClassD) (hJ : Joined l) (hu : ∀ c ∈ l, c.upto 140737488351232) (w0 : World) (b N : Nat) (m : Nat) : ∀ (y : List UInt8) (v : Value) (g : Nat) (pre : List (List UInt8)) (w : World), 12 ≤ pre.length + m → pre.Nodup → (∀ z ∈ pre, knownB l z = true) → knownB l y = true →
    Held w0 (classD l y) v → ClassMap w0 w b N l → b ≠ g → w0.heap.size ≤ g → Below w0.heap.size w0 w → NameSet w g pre.length pre →
    Calls Tryz.prog 55 #[.map (some b), .map (some g), v] w (MarkSays l (upsOf l y) pre g w) := by
  induction m using Nat.strongRecOn with
  | _ m ih =>
    intro y v g pre w hm hpn hpk hky hv hM hbg hg hB hS
    obtain ⟨cy, hcy⟩ := known_some hky
    obtain ⟨hp1, hp2⟩ := pars_of hJ hcy
    rw [classD_some hcy] at hv
    have h9 := (hJ.nodup y).2
    have hfl : cy.faces.length ≤ 1000 := by
      rw [upsOf_some hcy] at h9
      unfold ClassD.ups at h9
      rw [List.length_append] at h9
      omega
    have hgl := hS.lt
    have hvw := hv.below hB
    obtain ⟨A1, i1, j1, A2, i2, j2, A3, i3, j3, rfl, _⟩ := id hvw
    have HPa := parents_any cy _ _ (hvw.below (al1 w (.cells #[.string (bs cy.nm), .string (bs cy.su), .slice A1 i1 j1, .bool cy.face, .slice A2 i2 j2, .slice A3 i3 j3] 51))) hfl
    rw [hp1] at HPa
    replace HPa := Lib.hid HPa
    obtain ⟨us, hus⟩ : ∃ us, us = upsOf l y := ⟨_, rfl⟩
    rw [← hus] at HPa h9 ⊢
    have HKn := Lib.hid (show ∀ z ∈ us, knownB l z = true from fun z hz => hJ.known (by rw [← hus]; exact hz))
    obtain ⟨D, hown, hsay⟩ := hM
    have HSay := Lib.hid hsay
    have HO := Lib.hid hown
    have HS := Lib.hid hS
    have HB := Lib.hid hB
    have HI := Lib.hid ih
    have HJ := Lib.hid hJ
    have HU := Lib.hid (show ∀ z, knownB l z = true → z.length ≤ maxLen from fun z h => known_short hu h)
    have HM := Lib.hid hm
    have HM0 := Lib.hid (Marked.start hpn hpk)
    have HPl := Lib.hid (show ∀ out : List (List UInt8), (∀ z ∈ pre, z ∈ out) → pre.length ≤ out.length from fun out h => nodup_le hpn h)
    have HB0 := Lib.hid (al1 w (.cells #[.string (bs cy.nm), .string (bs cy.su), .slice A1 i1 j1, .bool cy.face, .slice A2 i2 j2, .slice A3 i3 j3] 51))
    clear hsay hown hS hB ih hJ hu hm hpn hpk hv hvw hcy hp1 hp2 hky hus hfl
    go_enter Tryz.func55, Tryz.ntmps55
    go_wp2_with (first
      | (go_at_call 63; (with_reducible refine HPa.out.mono ?_); rintro e w1 ⟨v1, rfl, hv, hb⟩
         obtain ⟨B, d, rfl⟩ := hv.form
         have HBg := Lib.hid (show ∀ a, B = some a → some a.block ≠ some g from fun a ha e => by
           have h1 := hv.from_ a ha
           have h2 : a.block = g := Option.some.inj e
           simp at h1
           omega)
         have HR1 := Lib.hid hv.row
         have HG1 := Lib.hid (below_grown (bnext HB0.out hb))
         have HS1 := Lib.hid (HS.out.below (bnext HB0.out hb))
         clear hv hb))
    go_loopw [7, 11] (fun _ i wr => ∃ (j : Nat) (out : List (List UInt8)), j ≤ us.length ∧ i = .int .i64 j ∧ Hid (Marked l (us.take j) pre out) ∧ Hid (NameSet wr g out.length out) ∧ Hid (StrRow wr B us.length d us) ∧ Hid (w.grownBy wr (some g))) (fun _ i _ => us.length - (intOf i).toNat)
    case atStart => exact ⟨0, pre, Nat.zero_le _, rfl, HM0, HS1, HR1, Lib.hid (HG1.out.but (some g))⟩
    case round =>
      obtain ⟨j, out, hj, rfl, HMk, HSr, HRr, HGr⟩ := hrel
      by_cases hlt : j < us.length
      · obtain ⟨b1, o1, rfl, hb1, hx1⟩ := SRow.at_ HRr.out hlt
        rw [Nat.mul_one] at hx1
        unfold StrAt at hx1
        have hkz := HKn.out _ (List.getElem_mem hlt)
        have HTk := Lib.hid (List.take_succ_eq_append_getElem hlt)
        generalize us[j] = z at *
        have HZ := Lib.hid (HU.out z hkz)
        have hol := HMk.out.len HJ.out
        cases hin : out.any (· == z) with
        | true =>
          have HM1 := Lib.hid (show Marked l (us.take (j + 1)) pre out by rw [HTk.out]; exact HMk.out.skip (any_mem.1 hin))
          have HIn := Lib.hid hin
          clear hin hkz
          go_wp2_with (first
            | (at_lookup; refine wpList_asks _ rfl _ _ rfl g _ out rfl HSr.out z rfl HZ.out true HIn.out ?_))
          go_roundw
          case rel => exact ⟨j + 1, out, by omega, by go_num, HM1, HSr, HRr, HGr⟩
          case measure => first | (simp [intOf]; omega) | simp [intOf]
        | false =>
          have hno := any_not.1 hin
          have hnd := nodup_more HMk.out.1 hno
          have hkn : ∀ y ∈ out ++ [z], knownB l y = true := fun y hy => by
            rcases List.mem_append.1 hy with hy | hy
            · exact HMk.out.2.1 y hy
            · obtain rfl := List.mem_singleton.1 hy; exact hkz
          have hle : (out ++ [z]).length ≤ 12 := Nat.le_trans (nodup_le hnd fun x hx => known_iff.1 (hkn x hx)) (names_len HJ.out.1)
          have hpo := HPl.out out HMk.out.2.2.1
          have hm0 := HM.out
          rw [List.length_append, List.length_singleton] at hle
          obtain ⟨_, v, hat, hhv⟩ := HSay.out.2 z
          have HHv := Lib.hid hhv
          have HCall := Lib.hid (fun (W : World) (h1 : wr.grownBy W (some g)) (h2 : NameSet W g (out.length + 1) (out ++ [z])) => HI.out (12 - (out.length + 1)) (by omega) z v g (out ++ [z]) W (by rw [List.length_append, List.length_singleton]; omega) hnd hkn hkz hhv
            ⟨D, (HO.out.kept HGr.out (by simpa using hbg)).kept h1 (by simpa using hbg), HSay.out⟩ hbg hg ((HB.out.grown HGr.out HB.out.size (fun i hi => by cases hi; exact hg)).grown h1 (Nat.le_trans HB.out.size HGr.out.size) (fun i hi => by cases hi; exact hg)) (by rw [List.length_append, List.length_singleton]; exact h2))
          have HMc := Lib.hid (show ∀ out2, Marked l (upsOf l z) (out ++ [z]) out2 → Marked l (us.take (j + 1)) pre out2 from fun out2 h => by rw [HTk.out]; exact HMk.out.call h)
          have HIn := Lib.hid hin
          have HAt := Lib.hid hat
          have HOr := Lib.hid (HO.out.kept HGr.out (show some b ≠ some g by simpa using hbg))
          clear hin hkz hno hnd hkn hpo hm0 hat hhv
          go_wp2_with (first
            | (at_lookup; refine wpList_asks _ rfl _ _ rfl g _ out rfl HSr.out z rfl HZ.out false HIn.out ?_)
            | (at_mapUpdate; refine wpList_add _ rfl _ _ _ rfl g _ out rfl HSr.out (by unfold maxLen; omega) z rfl HZ.out rfl ?_
               intro w3 hs3 hg3
               have HS3 := Lib.hid hs3
               have HG3 := Lib.hid hg3
               have HO3 := Lib.hid (HOr.out.kept hg3 (show some b ≠ some g by simpa using hbg))
               clear hs3 hg3)
            | (at_lookup; refine wpList_lookup_v _ rfl _ _ rfl b _ D rfl HO3.out z rfl HZ.out v HAt.out ?_)
            | (go_at_call 55; (with_reducible refine (HCall.out _ HG3.out HS3.out).mono ?_); rintro e w4 ⟨rfl, out2, hmk, hs4, hg4⟩
               have HM1 := Lib.hid (HMc.out _ hmk)
               have HS4 := Lib.hid hs4
               have HG4 := Lib.hid ((HGr.out.trans HG3.out).trans hg4)
               have HR4 := Lib.hid (StrRow.grown (StrRow.grown HRr.out HG3.out HBg.out) hg4 HBg.out)
               clear hmk hs4 hg4))
          go_roundw
          case rel => exact ⟨j + 1, out2, by omega, by go_num, HM1, HS4, HR4, HG4⟩
          case measure => first | (simp [intOf]; omega) | simp [intOf]
      · obtain rfl : j = us.length := by omega
        have hmk := HMk.out
        rw [List.take_of_length_le (Nat.le_refl _)] at hmk
        have HM1 := Lib.hid hmk
        clear hmk
        go_wp2
        go_end0
        exact ⟨rfl, out, HM1.out, HSr.out, HGr.out⟩

/-- What above says. -/
def AboveSays (l : List ClassD) (y : List UInt8) (w : World) (e : Ending) (w' : World) : Prop :=
  ∃ g out, e = .returned (.map (some g)) ∧ w.heap.size ≤ g ∧ out.Nodup ∧ out.length ≤ 12 ∧ (∀ z, z ∈ out ↔ Up l y z) ∧ NameSet w' g out.length out ∧ Below w.heap.size w w'
set_option maxRecDepth 20000 in
set_option maxHeartbeats 4000000 in
theorem above_any (l : List ClassD) (hJ : Joined l) (hu : ∀ c ∈ l, c.upto 140737488351232) (w0 : World) (b N : Nat) (y : List UInt8) (v : Value) (w : World) (hky : knownB l y = true) (hv : Held w0 (classD l y) v) (hM : ClassMap w0 w b N l) (hB : Below w0.heap.size w0 w) :
    Calls Tryz.prog 44 #[.map (some b), v] w (AboveSays l y w) := by
  have hmm := @run_makeMap Tryz.prog
  obtain ⟨A1, i1, j1, A2, i2, j2, A3, i3, j3, e, _⟩ := id hv
  have hB1 := al1 w (.cells #[.string (bs (classD l y).nm), .string (bs (classD l y).su), .slice A1 i1 j1, .bool (classD l y).face, .slice A2 i2 j2, .slice A3 i3 j3] 51)
  have hB2 := hB1.alloc (by simp) (.map #[] 0)
  have hlt := hM.lt
  have HC := mark_any l hJ hu w0 b N 12 y v (w.heap.size + 1) [] _ (by simp) List.nodup_nil (fun z hz => by cases hz) hky hv (hM.below hB2) (by omega) (by have := hB.size; omega) (bnext hB hB2) (by
    have := nameSet_made (w.alloc (.cells #[.string (bs (classD l y).nm), .string (bs (classD l y).su), .slice A1 i1 j1, .bool (classD l y).face, .slice A2 i2 j2, .slice A3 i3 j3] 51))
    rwa [show (w.alloc (.cells #[.string (bs (classD l y).nm), .string (bs (classD l y).su), .slice A1 i1 j1, .bool (classD l y).face, .slice A2 i2 j2, .slice A3 i3 j3] 51)).heap.size = w.heap.size + 1 by simp] at this)
  subst e
  have HCl := Lib.hid HC
  have HB2 := Lib.hid hB2
  have HJ := Lib.hid hJ
  clear HC hB1 hB2 hlt hu hv hM hB hJ hky
  go_enter Tryz.func44, Tryz.ntmps44
  go_wp2_with (first
    | (go_at_call 55; (with_reducible refine HCl.out.mono ?_); rintro e w4 ⟨rfl, out, hmk, hs4, hg4⟩
       have HM1 := Lib.hid hmk
       have HS4 := Lib.hid hs4
       have HB4 := Lib.hid (HB2.out.grown hg4 (by simp; omega) (fun i hi => by cases hi; omega))
       clear hmk hs4 hg4))
  go_ret
  exact ⟨_, out, rfl, by omega, HM1.out.1, HM1.out.len HJ.out, fun z => (HM1.out.all z).trans (up_iff y z).symm, HS4.out, HB4.out⟩
end Go.Proofs.YtkolpbjpgobkcaaGreatDoor
