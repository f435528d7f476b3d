/- The reference's Upward: all that is above a class. The reference's joinedFault. -/
import Derived.Test.YtkolpbjpgobkcaaGreatDoorGW
import Derived.Test.YtkolpbjpgobkcaaGreatDoorGE
import Derived.Test.YtkolpbjpgobkcaaGreatDoorClF
namespace Go.Proofs.YtkolpbjpgobkcaaGreatDoor
open Go.ChangeShapes Go.WideShapes Go.ChangeAt Go.RowKit
set_option linter.unusedVariables false

/-- The list that is being gathered: all above the first j of them are in it. -/
def Gathered (l : List ClassD) (y : List UInt8) (out : List (List UInt8)) (j : Nat) : Prop :=
  out.Nodup ∧ (∀ x ∈ out, Up l y x) ∧ (∀ x ∈ upsOf l y, x ∈ out) ∧ ∀ (t : Nat) (ht : t < out.length), t < j → ∀ x ∈ upsOf l out[t], x ∈ out
theorem Gathered.len {l : List ClassD} {y : List UInt8} {out : List (List UInt8)} {j : Nat} (h : Gathered l y out j) (hJ : Joined l) : out.length ≤ 12 :=
  Nat.le_trans (nodup_le h.1 fun x hx => known_iff.1 (hJ.upKnown (h.2.1 x hx))) (names_len hJ.1)
theorem gathered_start {l : List ClassD} (hJ : Joined l) (y : List UInt8) : Gathered l y (upsOf l y) 0 :=
  ⟨(hJ.nodup y).1, fun x hx => .one hx, fun x hx => hx, fun t ht h => by omega⟩
theorem Gathered.put {l : List ClassD} {y x : List UInt8} {out : List (List UInt8)} {j : Nat} (h : Gathered l y out j) (hx : x ∉ out) (hj : j < out.length) (hu : x ∈ upsOf l out[j]) : Gathered l y (out ++ [x]) j := by
  obtain ⟨h1, h2, h3, h4⟩ := h
  refine ⟨nodup_more h1 hx, fun z hz => ?_, fun z hz => List.mem_append_left _ (h3 z hz), fun t ht htj z hz => ?_⟩
  · rcases List.mem_append.1 hz with hz | hz
    · exact h2 z hz
    · obtain rfl := List.mem_singleton.1 hz
      exact (h2 _ (List.getElem_mem hj)).more hu
  · rw [List.getElem_append_left (by omega)] at hz
    exact List.mem_append_left _ (h4 t (by omega) htj z hz)
theorem Gathered.next {l : List ClassD} {y : List UInt8} {out : List (List UInt8)} {j : Nat} (h : Gathered l y out j) (hj : j < out.length) (hu : ∀ x ∈ upsOf l out[j], x ∈ out) : Gathered l y out (j + 1) := by
  obtain ⟨h1, h2, h3, h4⟩ := h
  refine ⟨h1, h2, h3, fun t ht htj => ?_⟩
  by_cases e : t = j
  · subst e; exact hu
  · exact h4 t ht (by omega)
theorem Gathered.all {l : List ClassD} {y : List UInt8} {out : List (List UInt8)} {j : Nat} (h : Gathered l y out j) (hj : out.length ≤ j) (x : List UInt8) : x ∈ out ↔ Up l y x := by
  obtain ⟨h1, h2, h3, h4⟩ := h
  refine ⟨h2 x, fun hu => hu.within h3 fun z hz u hu => ?_⟩
  obtain ⟨t, ht, rfl⟩ := List.getElem_of_mem hz
  exact h4 t ht (by omega) u hu
/-- What Upward says. -/
def UpSays (w : World) (l : List ClassD) (y : List UInt8) (e : Ending) (w' : World) : Prop := ∃ out, out.Nodup ∧ (∀ x, x ∈ out ↔ Up l y x) ∧ out.length ≤ 12 ∧ Gives w out e w'

set_option maxRecDepth 20000 in
set_option maxHeartbeats 8000000 in
theorem rupward_any (l : List ClassD) (hJ : Joined l) (y : List UInt8) (A : Option Addr) (n c : Nat) (w : World) (R : ClassRow w A n c l) (hn : n ≤ 140737488351232) :
    Calls Tryz.prog 29 #[.slice A n c, .string (bs y)] w (UpSays w l y) := by
  have HAb := Lib.hid (fun z W R => rabove_any l z A n c W R hn (by have := (hJ.nodup z).2; omega))
  have HJ := Lib.hid hJ
  have HR := Lib.hid R
  have HG0 := Lib.hid (gathered_start hJ y)
  clear R hJ
  go_enter Tryz.func29, Tryz.ntmps29
  go_wp2_with (first
    | (go_at_call 41; (with_reducible refine (HAb.out y _ HR.out).mono ?_); rintro e w1 ⟨v1, rfl, hv, hb⟩
       obtain ⟨A1, c1, rfl⟩ := hv.form
       have HO1 := Lib.hid hv
       have HB1 := Lib.hid hb
       clear hv hb))
  go_loopw [5, 6, 7, 8] (fun v i _ _ wr => ∃ (out : List (List UInt8)) (j : Nat) (A' : Option Addr) (c' : Nat), j ≤ out.length ∧ out.length ≤ 12 ∧ i = .int .i64 j ∧ v = .slice A' out.length c' ∧ Hid (Own wr w.heap.size (.slice A' out.length c') out) ∧ Hid (Gathered l y out j) ∧ Hid (Below w.heap.size w wr)) (fun _ i _ _ _ => 12 - (intOf i).toNat)
  case atStart => exact ⟨upsOf l y, 0, _, _, Nat.zero_le _, HG0.out.len HJ.out, rfl, rfl, HO1, HG0, HB1⟩
  case round =>
    obtain ⟨out0, j, A0, c0, hj, h12, rfl, rfl, HO, HG, HB⟩ := hrel
    by_cases hlt : j < out0.length
    · obtain ⟨b1, o1, rfl, hb1, hx1⟩ := SRow.at_ HO.out.row hlt
      rw [Nat.mul_one] at hx1
      unfold StrAt at hx1
      have HAj := Lib.hid (HAb.out out0[j] _ (ClassRow.below HR.out HB.out))
      have hm9 := (HJ.out.nodup out0[j]).2
      obtain ⟨y0, hy0⟩ : ∃ y0, y0 = out0[j] := ⟨_, rfl⟩
      rw [← hy0] at HAj hx1 hm9
      have HY := Lib.hid (show out0[j]? = some y0 by rw [hy0]; exact List.getElem?_eq_getElem hlt)
      clear hy0
      obtain ⟨more, hmore⟩ : ∃ more, more = upsOf l y0 := ⟨_, rfl⟩
      rw [← hmore] at HAj hm9
      replace hmore := Lib.hid hmore
      go_wp2_with (first
        | (go_at_call 41; (with_reducible refine HAj.out.mono ?_); rintro e w2 ⟨v2, rfl, hv, hb⟩
           obtain ⟨M, d, rfl⟩ := hv.form
           have HM2 := Lib.hid hv.row
           have HP2 := Lib.hid (apart_new hv HO.out)
           have HO2 := Lib.hid (HO.out.below hb)
           have HB2 := Lib.hid (bnext HB.out hb)
           clear hv hb))
      go_loopw [5, 8] (fun v k wr => ∃ (out : List (List UInt8)) (a : Nat) (A' : Option Addr) (c' : Nat), a ≤ more.length ∧ out.length ≤ 12 ∧ k = .int .i64 a ∧ v = .slice A' out.length c' ∧ Hid (Own wr w.heap.size (.slice A' out.length c') out) ∧ Hid (Gathered l y out j) ∧ Hid (out[j]? = some y0) ∧ Hid (∀ x ∈ more.take a, x ∈ out) ∧
        Hid (StrRow wr M more.length d more) ∧ Hid (Apart wr M (.slice A' out.length c')) ∧ Hid (Below w.heap.size w wr)) (fun _ k _ => more.length - (intOf k).toNat)
      case atStart => exact ⟨out0, 0, _, _, Nat.zero_le _, h12, rfl, rfl, HO2, HG, HY, Lib.hid (fun x hx => by cases hx), HM2, HP2, HB2⟩
      case round =>
        obtain ⟨out, a, A3, c3, ha, h12', rfl, rfl, HO3, HG3, HY3, HS3, HM3, HP3, HB3⟩ := hrel
        by_cases hlt2 : a < more.length
        · obtain ⟨b2, o2, rfl, hb2, hx2⟩ := SRow.at_ HM3.out hlt2
          rw [Nat.mul_one] at hx2
          unfold StrAt at hx2
          have HIn := rin_any A3 out.length c3 out more[a] wr HO3.out.row (by omega)
          have HTk := Lib.hid (List.take_succ_eq_append_getElem hlt2)
          have HMx := Lib.hid (show more[a] ∈ upsOf l y0 by rw [← hmore.out]; exact List.getElem_mem hlt2)
          generalize more[a] = x at *
          cases hin : out.any (· == x) with
          | true =>
            rw [hin] at HIn
            replace HIn := Lib.hid HIn
            have HS4 := Lib.hid (show ∀ z ∈ more.take (a + 1), z ∈ out from fun z hz => by
              rw [HTk.out] at hz
              rcases List.mem_append.1 hz with hz | hz
              · exact HS3.out z hz
              · obtain rfl := List.mem_singleton.1 hz; exact any_mem.1 hin)
            clear hin
            go_wp2_with (first
              | (go_at_call 28; (with_reducible refine HIn.out.mono ?_); rintro e w4 ⟨rfl, rfl⟩))
            go_roundw
            case rel => exact ⟨out, a + 1, _, _, by omega, h12', by go_num, rfl, HO3, HG3, HY3, HS4, HM3, HP3, HB3⟩
            case measure => first | (simp [intOf]; omega) | simp [intOf]
          | false =>
            rw [hin] at HIn
            replace HIn := Lib.hid HIn
            have hjl : j < out.length := (List.getElem?_eq_some_iff.1 HY3.out).1
            have HG4 := Lib.hid (HG3.out.put (any_not.1 hin) hjl (by have := (List.getElem?_eq_some_iff.1 HY3.out).2; rw [this]; exact HMx.out))
            have HY4 := Lib.hid (show (out ++ [x])[j]? = some y0 by rw [List.getElem?_append_left hjl]; exact HY3.out)
            have HS4 := Lib.hid (show ∀ z ∈ more.take (a + 1), z ∈ out ++ [x] from fun z hz => by
              rw [HTk.out] at hz
              rcases List.mem_append.1 hz with hz | hz
              · exact List.mem_append_left _ (HS3.out z hz)
              · exact List.mem_append_right _ hz)
            have h13 := HG4.out.len HJ.out
            have hsz := HB3.out.size
            have hn1 : out.length + 1 ≤ 1099511627776 := by omega
            have hbs : w.heap.size ≤ (wr.alloc (.cells #[.string (bs x)] 9)).heap.size := by simp; omega
            have HOa := Lib.hid (HO3.out.below (al1 wr (.cells #[.string (bs x)] 9)))
            have HLa := Lib.hid (str_lit wr x 9 (0, 0))
            clear hin
            go_wp2_with (first
              | (go_at_call 28; (with_reducible refine HIn.out.mono ?_); rintro e w4 ⟨rfl, rfl⟩)
              | (at_builtin
                 refine (wpList_strs rfl _ _ rfl w.heap.size (.slice A3 out.length c3) out rfl HOa.out (some ⟨wr.heap.size, 0, none⟩) 1 1 [x] rfl HLa.out (fun h => nomatch h) hn1 hbs ?_)
                 intro v5 w5 hv5 hb5 hg5 ha5
                 obtain ⟨A5, c5, rfl⟩ := hv5.form
                 have HO5 := Lib.hid hv5
                 have hp4 := HP3.out.alloc (.cells #[.string (bs x)] 9)
                 have HP5 := Lib.hid (hp4.grown hg5 ha5)
                 have HM5 := Lib.hid (StrRow.grown (StrRow.below HM3.out (al1 wr (.cells #[.string (bs x)] 9))) hg5 (fun a ha => (hp4 a ha).2))
                 have HB5 := Lib.hid ((HB3.out.alloc hsz (.cells #[.string (bs x)] 9)).trans hb5)
                 clear hv5 hb5 hg5 ha5 hp4))
            go_roundw
            case rel => exact ⟨out ++ [x], a + 1, A5, c5, by omega, h13, by go_num, by simp, HO5, HG4, HY4, HS4, HM5, HP5, HB5⟩
            case measure => first | (simp [intOf]; omega) | simp [intOf]
        · obtain rfl : a = more.length := by omega
          have hjl : j < out.length := (List.getElem?_eq_some_iff.1 HY3.out).1
          have HG4 := Lib.hid (HG3.out.next hjl (by
            have := (List.getElem?_eq_some_iff.1 HY3.out).2
            rw [this, ← hmore.out]
            intro x hx
            exact HS3.out x (by rw [List.take_length]; exact hx)))
          go_wp2_with fail
          go_roundw
          case rel => exact ⟨out, j + 1, _, _, hjl, h12', by go_num, rfl, HO3, HG4, HB3⟩
          case measure => first | (simp [intOf]; omega) | simp [intOf]
    · obtain rfl : j = out0.length := by omega
      have HE := Lib.hid (HG.out.all (Nat.le_refl _))
      go_wp2
      go_ret
      exact ⟨out0, HG.out.1, HE.out, h12, _, rfl, HO.out, HB.out⟩
end Go.Proofs.YtkolpbjpgobkcaaGreatDoor
namespace Go.Proofs.YtkolpbjpgobkcaaGreatDoor
open Go.ChangeShapes Go.WideShapes Go.ChangeAt Go.RowKit
set_option linter.unusedVariables false

/-- A new block of one text, as a row of the call's own. -/
theorem own_lit (w : World) (base : Nat) (x : List UInt8) (hb : base ≤ w.heap.size) : Own (w.alloc (.cells #[.string (bs x)] 9)) base (.slice (some ⟨w.heap.size, 0, none⟩) 1 1) [x] :=
  ⟨rfl, .inr ⟨w.heap.size, 1, #[.string (bs x)], rfl, hb, heap_alloc_new w _, Nat.le_refl _, by unfold maxLen; omega, rfl, rfl⟩⟩
theorem own_lit2 (w : World) (o : Obj) (base : Nat) (x : List UInt8) (hb : base ≤ w.heap.size) : Own ((w.alloc o).alloc (.cells #[.string (bs x)] 9)) base (.slice (some ⟨w.heap.size + 1, 0, none⟩) 1 1) [x] := by
  have := own_lit (w.alloc o) base x (by simp; omega)
  rwa [show (w.alloc o).heap.size = w.heap.size + 1 by simp] at this
section
variable {l : List ClassD} {c : ClassD}
theorem linkF_bare (h : c.su = []) : linkF l c = 1 := by unfold linkF; rw [if_pos h]
theorem linkF_none (h : c.su ≠ []) {k : Nat} (hk : k < (c.su :: c.faces).length) (h1 : knownB l (c.su :: c.faces)[k] = false) : linkF l c = 3 := by
  unfold linkF
  rw [if_neg h, if_pos]
  rw [List.all_eq_false]
  exact ⟨_, List.getElem_mem hk, by rw [h1]; simp⟩
theorem linkF_type (h : c.su ≠ []) (h0 : ∀ x ∈ c.su :: c.faces, knownB l x = true) {k : Nat} (hk : k < (c.su :: c.faces).length) (h1 : faceB l (c.su :: c.faces)[k] ≠ decide (0 < k)) : linkF l c = 7 := by
  unfold linkF
  rw [if_neg h, if_neg (by rw [List.all_eq_true.2 h0]; simp), if_pos]
  cases k with
  | zero =>
    have : faceB l c.su = true := by simpa using h1
    rw [this, Bool.true_or]
  | succ k =>
    have h2 : faceB l (c.faces[k]'(by simpa using hk)) = false := by simpa using h1
    rw [Bool.or_eq_true]
    exact .inr (List.any_eq_true.2 ⟨_, List.getElem_mem _, by rw [h2]; rfl⟩)
theorem linkF_end (h : c.su ≠ []) (h0 : ∀ x ∈ c.su :: c.faces, knownB l x = true) (h1 : ∀ (k : Nat) (hk : k < (c.su :: c.faces).length), faceB l (c.su :: c.faces)[k] = decide (0 < k)) : linkF l c = if (c.face && c.su != objB) = true then 7 else 0 := by
  unfold linkF
  rw [if_neg h, if_neg (by rw [List.all_eq_true.2 h0]; simp), if_neg]
  have h2 : faceB l c.su = false := by have := h1 0 (by simp); simpa using this
  rw [h2, Bool.false_or, Bool.not_eq_true, List.any_eq_false]
  intro x hx
  obtain ⟨k, hk, rfl⟩ := List.getElem_of_mem hx
  have := h1 (k + 1) (by simpa using hk)
  simp only [List.getElem_cons_succ] at this
  rw [this]
  simp
end

set_option maxRecDepth 20000 in
set_option maxHeartbeats 8000000 in
theorem rjoined_any (l : List ClassD) (x : ClassD) (A : Option Addr) (n c : Nat) (A1 : Option Addr) (i1 j1 : Nat) (A2 : Option Addr) (i2 j2 : Nat) (A3 : Option Addr) (i3 j3 : Nat) (w : World) (R : ClassRow w A n c l) (hn : n ≤ 140737488351232) (RF : StrRow w A1 i1 j1 x.faces) (NF : A1 = none → i1 = 0 ∧ j1 = 0) (hf : x.faces.length ≤ 1000) :
    Calls Tryz.prog 27 #[.slice A n c, .agg #[.string (bs x.nm), .string (bs x.su), .slice A1 i1 j1, .bool x.face, .slice A2 i2 j2, .slice A3 i3 j3]] w fun e w' => e = .returned (.int .i64 (linkF l x : Int)) ∧ Below w.heap.size w w' := by
  have HCo := Lib.hid (fun z W R => rclassOf_any l z A n c W R hn)
  have hl1 : x.faces.length = i1 := RF.1
  have HB0 := Lib.hid (al1 w (.cells #[.string (bs x.nm), .string (bs x.su), .slice A1 i1 j1, .bool x.face, .slice A2 i2 j2, .slice A3 i3 j3] 51))
  have HR := Lib.hid R
  have HRF := Lib.hid (RF.below HB0.out)
  have HX2 := Lib.hid (World.cell?_alloc_mark w #[.string (bs x.nm), .string (bs x.su), .slice A1 i1 j1, .bool x.face, .slice A2 i2 j2, .slice A3 i3 j3] 51 (0, 0))
  replace NF := Lib.hid NF
  clear R RF
  by_cases hs : x.su = []
  · have he := emptyB_yes hs
    have HV := Lib.hid (linkF_bare (l := l) hs)
    clear hs
    go_enter Tryz.func27, Tryz.ntmps27
    go_wp2_with fail
    go_ret
    exact ⟨ret_int (by rw [HV.out]; rfl), HB0.out⟩
  · have he := emptyB_no hs
    have HS := Lib.hid hs
    clear hs
    go_enter Tryz.func27, Tryz.ntmps27
    go_wp2_with (first
      | (at_builtin; refine wpList_strs rfl _ _ rfl w.heap.size (.slice (some ⟨w.heap.size + 1, 0, none⟩) 1 1) [x.su] rfl (own_lit2 w _ w.heap.size x.su (Nat.le_refl _)) A1 i1 j1 x.faces rfl (HRF.out.below (al1 _ _)) NF.out (by simp; omega) (by simp; omega) ?_
         intro v1 w1 hv1 hb1 hg1 _
         obtain ⟨B, d, rfl⟩ := hv1.form
         have ho1 : StrRow w1 B ([x.su] ++ x.faces).length d (x.su :: x.faces) := hv1.row
         have HE1 := Lib.hid (hg1.cell (((al1 (w.alloc (.cells #[.string (bs x.nm), .string (bs x.su), .slice A1 i1 j1, .bool x.face, .slice A2 i2 j2, .slice A3 i3 j3] 51)) (.cells #[.string (bs x.su)] 9)).cell (p := ⟨w.heap.size, 1, none⟩) (by simp)).trans (HX2.out 1)) (by simp [Value.ownBlock]))
         have HE3 := Lib.hid (hg1.cell (((al1 (w.alloc (.cells #[.string (bs x.nm), .string (bs x.su), .slice A1 i1 j1, .bool x.face, .slice A2 i2 j2, .slice A3 i3 j3] 51)) (.cells #[.string (bs x.su)] 9)).cell (p := ⟨w.heap.size, 3, none⟩) (by simp)).trans (HX2.out 3)) (by simp [Value.ownBlock]))
         have hz1 : w.heap.size < w1.heap.size := by have := hg1.size; simp at this; omega
         have HB1 := Lib.hid ((HB0.out.alloc (by simp) (.cells #[.string (bs x.su)] 9)).trans hb1)
         generalize hN : ([x.su] ++ x.faces).length = N at *
         have HO1 := Lib.hid ho1
         have hN2 : (x.su :: x.faces).length = N := hN
         clear hv1 hb1 hg1 ho1 hN))
    have HN := Lib.hid hN2
    have hN3 : N ≤ 1001 := by simp at hN2; omega
    have HR1 := Lib.hid (ClassRow.below HR.out HB1.out)
    clear hN2
    go_loopw [6, 7, 8] (fun i _ _ wr => ∃ k : Nat, k ≤ N ∧ i = .int .i64 k ∧ Hid (∀ (t : Nat) (ht : t < (x.su :: x.faces).length), t < k → knownB l (x.su :: x.faces)[t] = true) ∧ Hid (Below w1.heap.size w1 wr)) (fun i _ _ _ => N - (intOf i).toNat)
    case atStart => exact ⟨0, Nat.zero_le _, rfl, Lib.hid (fun t ht h => by omega), Lib.hid (Below.refl _ _)⟩
    case round =>
      obtain ⟨k, hk, rfl, HT, HB⟩ := hrel
      by_cases hlt : k < N
      · obtain ⟨b1, o1, rfl, hb1, hx1⟩ := SRow.at_ (HO1.out.below HB.out) hlt
        rw [Nat.mul_one] at hx1
        unfold StrAt at hx1
        have hk1 : k < (x.su :: x.faces).length := by rw [HN.out]; exact hlt
        have HC := Lib.hid (HCo.out (x.su :: x.faces)[k] wr (ClassRow.below HR1.out HB.out))
        have HF := Lib.hid (fun h => linkF_none (l := l) HS.out hk1 h)
        have HNx := Lib.hid (show knownB l (x.su :: x.faces)[k] = true → ∀ (t : Nat) (ht : t < (x.su :: x.faces).length), t < k + 1 → knownB l (x.su :: x.faces)[t] = true from fun h t ht htk => by
          by_cases e : t = k
          · subst e; exact h
          · exact HT.out t ht (by omega))
        generalize (x.su :: x.faces)[k] = z at *
        cases hkn : knownB l z with
        | false =>
          have HV := Lib.hid (HF.out hkn)
          clear HF HNx
          go_wp2_with (first
            | (go_at_call 14; (with_reducible refine HC.out.mono ?_); rintro e w2 ⟨v2, rfl, hh, hb⟩
               obtain ⟨A4, i4, j4, A5, i5, j5, A6, i6, j6, rfl, _⟩ := hh
               have HB2 := Lib.hid (bnext HB.out hb)
               clear hb))
          go_ret
          exact ⟨ret_int (by rw [HV.out]; rfl), HB1.out.trans (HB2.out.mono (Nat.le_of_lt hz1) |>.alloc (Nat.le_trans (Nat.le_of_lt hz1) HB2.out.size) _)⟩
        | true =>
          have HT2 := Lib.hid (HNx.out hkn)
          clear HF HNx
          go_wp2_with (first
            | (go_at_call 14; (with_reducible refine HC.out.mono ?_); rintro e w2 ⟨v2, rfl, hh, hb⟩
               obtain ⟨A4, i4, j4, A5, i5, j5, A6, i6, j6, rfl, _⟩ := hh
               have HB2 := Lib.hid ((bnext HB.out hb).alloc (Nat.le_trans HB.out.size hb.size) (.cells #[.string (bs (classD l z).nm), .string (bs (classD l z).su), .slice A4 i4 j4, .bool (classD l z).face, .slice A5 i5 j5, .slice A6 i6 j6] 51))
               clear hb))
          go_roundw
          case rel => exact ⟨k + 1, by omega, by go_num, HT2, HB2⟩
          case measure => first | (simp [intOf]; omega) | simp [intOf]
      · obtain rfl : k = N := by omega
        have HK := Lib.hid (show ∀ z ∈ x.su :: x.faces, knownB l z = true from fun z hz => by
          obtain ⟨t, ht, rfl⟩ := List.getElem_of_mem hz
          exact HT.out t ht (by rw [← HN.out]; exact ht))
        clear HT
        go_wp2_with fail
        go_loopw [9, 10, 11] (fun i _ _ wq => ∃ a : Nat, a ≤ k ∧ i = .int .i64 a ∧ Hid (∀ (t : Nat) (ht : t < (x.su :: x.faces).length), t < a → faceB l (x.su :: x.faces)[t] = decide (0 < t)) ∧ Hid (Below w1.heap.size w1 wq)) (fun i _ _ _ => k - (intOf i).toNat)
        case atStart => exact ⟨0, Nat.zero_le _, rfl, Lib.hid (fun t ht h => by omega), HB⟩
        case round =>
          obtain ⟨a, ha, rfl, HT, HB⟩ := hrel
          by_cases hlt : a < k
          · obtain ⟨b1, o1, rfl, hb1, hx1⟩ := SRow.at_ (HO1.out.below HB.out) hlt
            rw [Nat.mul_one] at hx1
            unfold StrAt at hx1
            have hk1 : a < (x.su :: x.faces).length := by rw [HN.out]; exact hlt
            have HC := Lib.hid (HCo.out (x.su :: x.faces)[a] _ (ClassRow.below HR1.out HB.out))
            have HF := Lib.hid (fun h => linkF_type (l := l) HS.out HK.out hk1 h)
            have HNx := Lib.hid (show faceB l (x.su :: x.faces)[a] = decide (0 < a) → ∀ (t : Nat) (ht : t < (x.su :: x.faces).length), t < a + 1 → faceB l (x.su :: x.faces)[t] = decide (0 < t) from fun h t ht htk => by
              by_cases e : t = a
              · subst e; exact h
              · exact HT.out t ht (by omega))
            generalize (x.su :: x.faces)[a] = z at *
            rw [faceB_D] at HF HNx
            by_cases hgo : (classD l z).face = decide (0 < a)
            · have HT2 := Lib.hid (HNx.out hgo)
              clear HF HNx HT
              have ha0 : (¬ 0 < a ∧ decide ((0 : Int) < (a : Int)) = false ∧ (classD l z).face = false) ∨ (0 < a ∧ decide ((0 : Int) < (a : Int)) = true ∧ (classD l z).face = true) := by
                rcases Nat.eq_zero_or_pos a with h | h
                · exact .inl ⟨by omega, by simp [h], by rw [hgo, h]; rfl⟩
                · exact .inr ⟨h, by simpa using h, by rw [hgo]; simpa using h⟩
              clear hgo
              rcases ha0 with ⟨hp0, ha0, hfc⟩ | ⟨hp0, ha0, hfc⟩
              all_goals
                go_wp2_with (first
                  | (go_at_call 14; (with_reducible refine HC.out.mono ?_); rintro e w2 ⟨v2, rfl, hh, hb⟩
                     obtain ⟨A4, i4, j4, A5, i5, j5, A6, i6, j6, rfl, _⟩ := hh
                     rw [hfc]
                     have HB2 := Lib.hid ((bnext HB.out hb).alloc (Nat.le_trans HB.out.size hb.size) (.cells #[.string (bs (classD l z).nm), .string (bs (classD l z).su), .slice A4 i4 j4, .bool (classD l z).face, .slice A5 i5 j5, .slice A6 i6 j6] 51))
                     rw [hfc] at HB2
                     clear hb))
                go_roundw
                case rel => exact ⟨a + 1, by omega, by go_num, HT2, HB2⟩
                case measure => first | (simp [intOf]; omega) | simp [intOf]
            · have HV := Lib.hid (HF.out hgo)
              clear HF HNx HT
              have ha0 : (¬ 0 < a ∧ decide ((0 : Int) < (a : Int)) = false ∧ (classD l z).face = true) ∨ (0 < a ∧ decide ((0 : Int) < (a : Int)) = true ∧ (classD l z).face = false) := by
                rcases Nat.eq_zero_or_pos a with h | h
                · subst h
                  exact .inl ⟨by omega, by simp, by simpa using hgo⟩
                · exact .inr ⟨h, by simpa using h, by simpa [h] using hgo⟩
              clear hgo
              rcases ha0 with ⟨hp0, ha0, hfc⟩ | ⟨hp0, ha0, hfc⟩
              all_goals
                go_wp2_with (first
                  | (go_at_call 14; (with_reducible refine HC.out.mono ?_); rintro e w2 ⟨v2, rfl, hh, hb⟩
                     obtain ⟨A4, i4, j4, A5, i5, j5, A6, i6, j6, rfl, _⟩ := hh
                     rw [hfc]
                     have HB2 := Lib.hid ((bnext HB.out hb).alloc (Nat.le_trans HB.out.size hb.size) (.cells #[.string (bs (classD l z).nm), .string (bs (classD l z).su), .slice A4 i4 j4, .bool (classD l z).face, .slice A5 i5 j5, .slice A6 i6 j6] 51))
                     rw [hfc] at HB2
                     clear hb))
                go_ret
                exact ⟨ret_int (by rw [HV.out]; rfl), HB1.out.trans (HB2.out.mono (Nat.le_of_lt hz1))⟩
          · obtain rfl : a = k := by omega
            have HV := Lib.hid (linkF_end HS.out HK.out (fun t ht => HT.out t ht (by rw [← HN.out]; exact ht)))
            have c1 := (HB.out.cell (p := ⟨w.heap.size, 1, none⟩) hz1).trans HE1.out
            have c3 := (HB.out.cell (p := ⟨w.heap.size, 3, none⟩) hz1).trans HE3.out
            have HW := Lib.hid (HB1.out.trans (HB.out.mono (Nat.le_of_lt hz1)))
            have hcase : (x.face = false ∧ Hid (linkF l x = 0)) ∨ (x.face = true ∧ ((bs x.su).toList == [79, 98, 106, 101, 99, 116]) = true ∧ Hid (linkF l x = 0)) ∨ (x.face = true ∧ ((bs x.su).toList == [79, 98, 106, 101, 99, 116]) = false ∧ Hid (linkF l x = 7)) := by
              have e := HV.out
              cases hfc : x.face with
              | false => rw [hfc] at e; exact .inl ⟨rfl, Lib.hid (by simpa using e)⟩
              | true =>
                rw [hfc] at e
                by_cases ho : x.su = objB
                · exact .inr (.inl ⟨rfl, lst_yes ho, Lib.hid (by simpa [ho] using e)⟩)
                · exact .inr (.inr ⟨rfl, lst_no ho, Lib.hid (by simpa [ho] using e)⟩)
            clear HV
            rcases hcase with ⟨hfc, HV⟩ | ⟨hfc, e1, HV⟩ | ⟨hfc, e1, HV⟩
            all_goals
              rw [hfc] at c3
              go_wp2_with fail
              go_ret
              exact ⟨ret_int (by rw [HV.out]; rfl), HW.out⟩
end Go.Proofs.YtkolpbjpgobkcaaGreatDoor
