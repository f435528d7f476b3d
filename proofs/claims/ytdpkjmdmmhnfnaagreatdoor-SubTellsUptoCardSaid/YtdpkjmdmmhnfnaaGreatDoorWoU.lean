/- The reference's Upward: all that is above a class. -/
import Derived.Test.YtdpkjmdmmhnfnaaGreatDoorWoA
import Derived.Test.YtdpkjmdmmhnfnaaGreatDoorGE
namespace Go.Proofs.YtdpkjmdmmhnfnaaGreatDoor
open Go.ChangeShapes Go.WideShapes Go.ChangeAt Go.RowKit
set_option linter.unusedVariables false

/-- The list that is being gathered: all above the first j of them are in it. -/
def Gathered (l : List ClassD) (y : List UInt8) (out : List (List UInt8)) (j : Nat) : Prop :=
  out.Nodup ∧ (∀ x ∈ out, Up l y x) ∧ (∀ x ∈ upsOf l y, x ∈ out) ∧ ∀ (t : Nat) (ht : t < out.length), t < j → ∀ x ∈ upsOf l out[t], x ∈ out
theorem Gathered.len {l : List ClassD} {y : List UInt8} {out : List (List UInt8)} {j : Nat} (h : Gathered l y out j) (hJ : Joined l) : out.length ≤ 12 :=
  Nat.le_trans (nodup_le h.1 fun x hx => known_iff.1 (hJ.upKnown (h.2.1 x hx))) (names_len hJ.1)
theorem gathered_start {l : List ClassD} (hJ : Joined l) (y : List UInt8) : Gathered l y (upsOf l y) 0 :=
  ⟨(hJ.nodup y).1, fun x hx => .one hx, fun x hx => hx, fun t ht h => by omega⟩
theorem Gathered.put {l : List ClassD} {y x : List UInt8} {out : List (List UInt8)} {j : Nat} (h : Gathered l y out j) (hx : x ∉ out) (hj : j < out.length) (hu : x ∈ upsOf l out[j]) : Gathered l y (out ++ [x]) j := by
  obtain ⟨h1, h2, h3, h4⟩ := h
  refine ⟨nodup_more h1 hx, fun z hz => ?_, fun z hz => List.mem_append_left _ (h3 z hz), fun t ht htj z hz => ?_⟩
  · rcases List.mem_append.1 hz with hz | hz
    · exact h2 z hz
    · obtain rfl := List.mem_singleton.1 hz
      exact (h2 _ (List.getElem_mem hj)).more hu
  · rw [List.getElem_append_left (by omega)] at hz
    exact List.mem_append_left _ (h4 t (by omega) htj z hz)
theorem Gathered.next {l : List ClassD} {y : List UInt8} {out : List (List UInt8)} {j : Nat} (h : Gathered l y out j) (hj : j < out.length) (hu : ∀ x ∈ upsOf l out[j], x ∈ out) : Gathered l y out (j + 1) := by
  obtain ⟨h1, h2, h3, h4⟩ := h
  refine ⟨h1, h2, h3, fun t ht htj => ?_⟩
  by_cases e : t = j
  · subst e; exact hu
  · exact h4 t ht (by omega)
theorem Gathered.all {l : List ClassD} {y : List UInt8} {out : List (List UInt8)} {j : Nat} (h : Gathered l y out j) (hj : out.length ≤ j) (x : List UInt8) : x ∈ out ↔ Up l y x := by
  obtain ⟨h1, h2, h3, h4⟩ := h
  refine ⟨h2 x, fun hu => hu.within h3 fun z hz u hu => ?_⟩
  obtain ⟨t, ht, rfl⟩ := List.getElem_of_mem hz
  exact h4 t ht (by omega) u hu
/-- What Upward says. -/
def UpSays (w : World) (l : List ClassD) (y : List UInt8) (e : Ending) (w' : World) : Prop := ∃ out, out.Nodup ∧ (∀ x, x ∈ out ↔ Up l y x) ∧ out.length ≤ 12 ∧ Gives w out e w'

set_option maxRecDepth 20000 in
set_option maxHeartbeats 8000000 in
theorem rupward_any (l : List ClassD) (hJ : Joined l) (y : List UInt8) (A : Option Addr) (n c : Nat) (w : World) (R : ClassRow w A n c l) (hn : n ≤ 140737488351232) :
    Calls Tryz.prog 31 #[.slice A n c, .string (bs y)] w (UpSays w l y) := by
  have HAb := Lib.hid (fun z W R => rabove_any l z A n c W R hn (by have := (hJ.nodup z).2; omega))
  have HJ := Lib.hid hJ
  have HR := Lib.hid R
  have HG0 := Lib.hid (gathered_start hJ y)
  clear R hJ
  go_enter Tryz.func31, Tryz.ntmps31
  go_wp2_with (first
    | (go_at_call 48; (with_reducible refine (HAb.out y _ HR.out).mono ?_); rintro e w1 ⟨v1, rfl, hv, hb⟩
       obtain ⟨A1, c1, rfl⟩ := hv.form
       have HO1 := Lib.hid hv
       have HB1 := Lib.hid hb
       clear hv hb))
  go_loopw [5, 6, 7, 8] (fun v i _ _ wr => ∃ (out : List (List UInt8)) (j : Nat) (A' : Option Addr) (c' : Nat), j ≤ out.length ∧ out.length ≤ 12 ∧ i = .int .i64 j ∧ v = .slice A' out.length c' ∧ Hid (Own wr w.heap.size (.slice A' out.length c') out) ∧ Hid (Gathered l y out j) ∧ Hid (Below w.heap.size w wr)) (fun _ i _ _ _ => 12 - (intOf i).toNat)
  case atStart => exact ⟨upsOf l y, 0, _, _, Nat.zero_le _, HG0.out.len HJ.out, rfl, rfl, HO1, HG0, HB1⟩
  case round =>
    obtain ⟨out0, j, A0, c0, hj, h12, rfl, rfl, HO, HG, HB⟩ := hrel
    by_cases hlt : j < out0.length
    · obtain ⟨b1, o1, rfl, hb1, hx1⟩ := SRow.at_ HO.out.row hlt
      rw [Nat.mul_one] at hx1
      unfold StrAt at hx1
      have HAj := Lib.hid (HAb.out out0[j] _ (ClassRow.below HR.out HB.out))
      have hm9 := (HJ.out.nodup out0[j]).2
      obtain ⟨y0, hy0⟩ : ∃ y0, y0 = out0[j] := ⟨_, rfl⟩
      rw [← hy0] at HAj hx1 hm9
      have HY := Lib.hid (show out0[j]? = some y0 by rw [hy0]; exact List.getElem?_eq_getElem hlt)
      clear hy0
      obtain ⟨more, hmore⟩ : ∃ more, more = upsOf l y0 := ⟨_, rfl⟩
      rw [← hmore] at HAj hm9
      replace hmore := Lib.hid hmore
      go_wp2_with (first
        | (go_at_call 48; (with_reducible refine HAj.out.mono ?_); rintro e w2 ⟨v2, rfl, hv, hb⟩
           obtain ⟨M, d, rfl⟩ := hv.form
           have HM2 := Lib.hid hv.row
           have HP2 := Lib.hid (apart_new hv HO.out)
           have HO2 := Lib.hid (HO.out.below hb)
           have HB2 := Lib.hid (bnext HB.out hb)
           clear hv hb))
      go_loopw [5, 8] (fun v k wr => ∃ (out : List (List UInt8)) (a : Nat) (A' : Option Addr) (c' : Nat), a ≤ more.length ∧ out.length ≤ 12 ∧ k = .int .i64 a ∧ v = .slice A' out.length c' ∧ Hid (Own wr w.heap.size (.slice A' out.length c') out) ∧ Hid (Gathered l y out j) ∧ Hid (out[j]? = some y0) ∧ Hid (∀ x ∈ more.take a, x ∈ out) ∧
        Hid (StrRow wr M more.length d more) ∧ Hid (Apart wr M (.slice A' out.length c')) ∧ Hid (Below w.heap.size w wr)) (fun _ k _ => more.length - (intOf k).toNat)
      case atStart => exact ⟨out0, 0, _, _, Nat.zero_le _, h12, rfl, rfl, HO2, HG, HY, Lib.hid (fun x hx => by cases hx), HM2, HP2, HB2⟩
      case round =>
        obtain ⟨out, a, A3, c3, ha, h12', rfl, rfl, HO3, HG3, HY3, HS3, HM3, HP3, HB3⟩ := hrel
        by_cases hlt2 : a < more.length
        · obtain ⟨b2, o2, rfl, hb2, hx2⟩ := SRow.at_ HM3.out hlt2
          rw [Nat.mul_one] at hx2
          unfold StrAt at hx2
          have HIn := rin_any A3 out.length c3 out more[a] wr HO3.out.row (by omega)
          have HTk := Lib.hid (List.take_succ_eq_append_getElem hlt2)
          have HMx := Lib.hid (show more[a] ∈ upsOf l y0 by rw [← hmore.out]; exact List.getElem_mem hlt2)
          generalize more[a] = x at *
          cases hin : out.any (· == x) with
          | true =>
            rw [hin] at HIn
            replace HIn := Lib.hid HIn
            have HS4 := Lib.hid (show ∀ z ∈ more.take (a + 1), z ∈ out from fun z hz => by
              rw [HTk.out] at hz
              rcases List.mem_append.1 hz with hz | hz
              · exact HS3.out z hz
              · obtain rfl := List.mem_singleton.1 hz; exact any_mem.1 hin)
            clear hin
            go_wp2_with (first
              | (go_at_call 14; (with_reducible refine HIn.out.mono ?_); rintro e w4 ⟨rfl, rfl⟩))
            go_roundw
            case rel => exact ⟨out, a + 1, _, _, by omega, h12', by go_num, rfl, HO3, HG3, HY3, HS4, HM3, HP3, HB3⟩
            case measure => first | (simp [intOf]; omega) | simp [intOf]
          | false =>
            rw [hin] at HIn
            replace HIn := Lib.hid HIn
            have hjl : j < out.length := (List.getElem?_eq_some_iff.1 HY3.out).1
            have HG4 := Lib.hid (HG3.out.put (any_not.1 hin) hjl (by have := (List.getElem?_eq_some_iff.1 HY3.out).2; rw [this]; exact HMx.out))
            have HY4 := Lib.hid (show (out ++ [x])[j]? = some y0 by rw [List.getElem?_append_left hjl]; exact HY3.out)
            have HS4 := Lib.hid (show ∀ z ∈ more.take (a + 1), z ∈ out ++ [x] from fun z hz => by
              rw [HTk.out] at hz
              rcases List.mem_append.1 hz with hz | hz
              · exact List.mem_append_left _ (HS3.out z hz)
              · exact List.mem_append_right _ hz)
            have h13 := HG4.out.len HJ.out
            have hsz := HB3.out.size
            have hn1 : out.length + 1 ≤ 1099511627776 := by omega
            have hbs : w.heap.size ≤ (wr.alloc (.cells #[.string (bs x)] 9)).heap.size := by simp; omega
            have HOa := Lib.hid (HO3.out.below (al1 wr (.cells #[.string (bs x)] 9)))
            have HLa := Lib.hid (str_lit wr x 9 (0, 0))
            clear hin
            go_wp2_with (first
              | (go_at_call 14; (with_reducible refine HIn.out.mono ?_); rintro e w4 ⟨rfl, rfl⟩)
              | (at_builtin
                 refine (wpList_strs rfl _ _ rfl w.heap.size (.slice A3 out.length c3) out rfl HOa.out (some ⟨wr.heap.size, 0, none⟩) 1 1 [x] rfl HLa.out (fun h => nomatch h) hn1 hbs ?_)
                 intro v5 w5 hv5 hb5 hg5 ha5
                 obtain ⟨A5, c5, rfl⟩ := hv5.form
                 have HO5 := Lib.hid hv5
                 have hp4 := HP3.out.alloc (.cells #[.string (bs x)] 9)
                 have HP5 := Lib.hid (hp4.grown hg5 ha5)
                 have HM5 := Lib.hid (StrRow.grown (StrRow.below HM3.out (al1 wr (.cells #[.string (bs x)] 9))) hg5 (fun a ha => (hp4 a ha).2))
                 have HB5 := Lib.hid ((HB3.out.alloc hsz (.cells #[.string (bs x)] 9)).trans hb5)
                 clear hv5 hb5 hg5 ha5 hp4))
            go_roundw
            case rel => exact ⟨out ++ [x], a + 1, A5, c5, by omega, h13, by go_num, by simp, HO5, HG4, HY4, HS4, HM5, HP5, HB5⟩
            case measure => first | (simp [intOf]; omega) | simp [intOf]
        · obtain rfl : a = more.length := by omega
          have hjl : j < out.length := (List.getElem?_eq_some_iff.1 HY3.out).1
          have HG4 := Lib.hid (HG3.out.next hjl (by
            have := (List.getElem?_eq_some_iff.1 HY3.out).2
            rw [this, ← hmore.out]
            intro x hx
            exact HS3.out x (by rw [List.take_length]; exact hx)))
          go_wp2_with fail
          go_roundw
          case rel => exact ⟨out, j + 1, _, _, hjl, h12', by go_num, rfl, HO3, HG4, HB3⟩
          case measure => first | (simp [intOf]; omega) | simp [intOf]
    · obtain rfl : j = out0.length := by omega
      have HE := Lib.hid (HG.out.all (Nat.le_refl _))
      go_wp2
      go_ret
      exact ⟨out0, HG.out.1, HE.out, h12, _, rfl, HO.out, HB.out⟩
end Go.Proofs.YtdpkjmdmmhnfnaaGreatDoor
