/- The reference's ClassOf. -/
import Derived.Test.YtdpkjmdmmhnfnaaGreatDoorGH
namespace Go.Proofs.YtdpkjmdmmhnfnaaGreatDoor
open Go.ChangeShapes Go.WideShapes Go.ChangeAt Go.RowKit
set_option linter.unusedVariables false

/-- A class's value in a world: its lists lie there. -/
def Held (w : World) (c : ClassD) (v : Value) : Prop :=
  ∃ A i j B k l C m n, v = .agg #[.string (bs c.nm), .string (bs c.su), .slice A i j, .bool c.face, .slice B k l, .slice C m n] ∧ StrRow w A i j c.faces ∧ FieldRow w B k l c.fields ∧ MethRow w C m n c.meths ∧ (A = none → i = 0 ∧ j = 0) ∧ (B = none → k = 0 ∧ l = 0) ∧ (C = none → m = 0 ∧ n = 0)
theorem Held.below {w w' : World} {c : ClassD} {v : Value} (h : Held w c v) (hb : Below w.heap.size w w') : Held w' c v := by
  obtain ⟨A, i, j, B, k, l, C, m, n, e, h1, h2, h3, h4⟩ := h
  exact ⟨A, i, j, B, k, l, C, m, n, e, h1.below hb, h2.below hb, h3.below hb, h4⟩
theorem held_bare (w : World) {c : ClassD} (h1 : c.faces = []) (h2 : c.fields = []) (h3 : c.meths = []) : Held w c (.agg #[.string (bs c.nm), .string (bs c.su), .slice none 0 0, .bool c.face, .slice none 0 0, .slice none 0 0]) :=
  ⟨none, 0, 0, none, 0, 0, none, 0, 0, rfl, by rw [h1]; exact SRow.nil_ _ _ _, by rw [h2]; exact SRow.nil_ _ _ _, by rw [h3]; exact SRow.nil_ _ _ _, fun _ => ⟨rfl, rfl⟩, fun _ => ⟨rfl, rfl⟩, fun _ => ⟨rfl, rfl⟩⟩
/-- What ClassOf says. -/
def ClassSays (w : World) (l : List ClassD) (y : List UInt8) (e : Ending) (w' : World) : Prop := ∃ v, e = .returned (.tuple #[v, .bool (knownB l y)]) ∧ Held w' (classD l y) v ∧ Below w.heap.size w w'
theorem find_next {l : List ClassD} {y : List UInt8} {k : Nat} (hk : k < l.length) (h : ∀ x ∈ l.take k, x.nm ≠ y) (hn : l[k].nm ≠ y) : ∀ x ∈ l.take (k + 1), x.nm ≠ y := by
  rw [List.take_succ_eq_append_getElem hk]
  intro x hx
  rcases List.mem_append.1 hx with hx | hx
  · exact h x hx
  · obtain rfl := List.mem_singleton.1 hx
    exact hn
theorem find_at {l : List ClassD} {y : List UInt8} {k : Nat} (h1 : y ≠ objB) (h2 : y ≠ fltB) (hk : k < l.length) (h : ∀ x ∈ l.take k, x.nm ≠ y) (hn : l[k].nm = y) : classOf l y = some l[k] := by
  rw [classOf_find h1 h2]
  have e : l = l.take k ++ l[k] :: l.drop (k + 1) := by rw [← List.drop_eq_getElem_cons hk, List.take_append_drop]
  have h4 : (l.take k).find? (fun c => c.nm == y) = none := List.find?_eq_none.2 fun x hx => by simpa using h x hx
  have h5 : (l.take k ++ l[k] :: l.drop (k + 1)).find? (fun c => c.nm == y) = some l[k] := by rw [List.find?_append, h4, Option.none_or, List.find?_cons_of_pos (by simp [hn])]
  rw [← e] at h5
  exact h5
theorem find_no {l : List ClassD} {y : List UInt8} (h1 : y ≠ objB) (h2 : y ≠ fltB) (h : ∀ x ∈ l, x.nm ≠ y) : classOf l y = none := by
  rw [classOf_find h1 h2]
  exact List.find?_eq_none.2 fun x hx => by simpa using h x hx

theorem lst_yes {a l : List UInt8} (h : a = l) : ((bs a).toList == l) = true := by rw [ByteArray.toList_eq, beq_iff_eq]; exact h
theorem lst_no {a l : List UInt8} (h : a ≠ l) : ((bs a).toList == l) = false := by rw [ByteArray.toList_eq, beq_eq_false_iff_ne]; exact h
theorem str_ne_ {a b : List UInt8} (h : a ≠ b) : ((bs a).toList == (bs b).toList) = false := by rw [ByteArray.toList_eq, ByteArray.toList_eq, beq_eq_false_iff_ne]; exact h
theorem held_obj (w : World) {l : List ClassD} {y : List UInt8} (h : y = objB) : Held w (classD l y) (.agg #[.string (bs y), .string ⟨#[]⟩, .slice none 0 0, .bool false, .slice none 0 0, .slice none 0 0]) := by
  subst h; rw [classD_some classOf_obj]; exact held_bare w (c := objC) rfl rfl rfl
theorem held_flt (w : World) {l : List ClassD} {y : List UInt8} (h : y = fltB) : Held w (classD l y) (.agg #[.string (bs y), .string ⟨#[79, 98, 106, 101, 99, 116]⟩, .slice none 0 0, .bool false, .slice none 0 0, .slice none 0 0]) := by
  subst h; rw [classD_some classOf_flt]; exact held_bare w (c := fltC) rfl rfl rfl
theorem held_none (w : World) {l : List ClassD} {y : List UInt8} (h : classOf l y = none) : Held w (classD l y) (.agg #[.string ⟨#[]⟩, .string ⟨#[]⟩, .slice none 0 0, .bool false, .slice none 0 0, .slice none 0 0]) := by
  rw [classD_none h]; exact held_bare w (c := zeroC) rfl rfl rfl
theorem known_obj {w : List ClassD} : knownB w objB = true := by unfold knownB; rw [classOf_obj]; rfl
theorem known_flt {w : List ClassD} : knownB w fltB = true := by unfold knownB; rw [classOf_flt]; rfl
set_option maxRecDepth 20000 in
set_option maxHeartbeats 4000000 in
theorem rclassOf_any (l : List ClassD) (y : List UInt8) (A : Option Addr) (n c : Nat) (w : World) (R : ClassRow w A n c l) (hn : n ≤ 140737488351232) :
    Calls Tryz.prog 28 #[.slice A n c, .string (bs y)] w (ClassSays w l y) := by
  have hl : l.length = n := R.1
  have HL := Lib.hid hl
  have HR := Lib.hid R
  clear hl R
  by_cases h1 : y = objB
  · have e1 : ((bs y).toList == [79, 98, 106, 101, 99, 116]) = true := lst_yes h1
    replace h1 := Lib.hid h1
    go_enter Tryz.func28, Tryz.ntmps28
    go_wp2
    refine bodyPost_ret (v := .tuple #[.agg #[.string (bs y), .string ⟨#[]⟩, .slice none 0 0, .bool false, .slice none 0 0, .slice none 0 0], .bool true]) ?_ rfl ⟨_, by rw [h1.out, known_obj], held_obj _ h1.out, al1 _ _⟩
    simp [results, Tryz.results28, go_sem, *]
  · have e1 : ((bs y).toList == [79, 98, 106, 101, 99, 116]) = false := lst_no h1
    by_cases h2 : y = fltB
    · have e2 : ((bs y).toList == [70, 97, 117, 108, 116]) = true := lst_yes h2
      replace h2 := Lib.hid h2
      go_enter Tryz.func28, Tryz.ntmps28
      go_wp2
      refine bodyPost_ret (v := .tuple #[.agg #[.string (bs y), .string ⟨#[79, 98, 106, 101, 99, 116]⟩, .slice none 0 0, .bool false, .slice none 0 0, .slice none 0 0], .bool true]) ?_ rfl ⟨_, by rw [h2.out, known_flt], held_flt _ h2.out, al1 _ _⟩
      simp [results, Tryz.results28, go_sem, *]
    · have e2 : ((bs y).toList == [70, 97, 117, 108, 116]) = false := lst_no h2
      have H1 := Lib.hid h1
      have H2 := Lib.hid h2
      have HB0 := Lib.hid (al1 w (.cells #[.string ⟨#[]⟩, .string ⟨#[]⟩, .slice none 0 0, .bool false, .slice none 0 0, .slice none 0 0] 48))
      have HRv := Lib.hid (ClassRow.below HR.out HB0.out)
      clear h1 h2
      go_enter Tryz.func28, Tryz.ntmps28
      go_wp2
      go_loop [6] (fun i => ∃ k : Nat, k ≤ n ∧ i = .int .i64 k ∧ Hid (∀ x ∈ l.take k, x.nm ≠ y)) (fun i => n - (intOf i).toNat)
      case atStart => exact ⟨0, Nat.zero_le _, rfl, Lib.hid (fun x hx => by cases hx)⟩
      case round =>
        obtain ⟨k, hk, rfl, HT⟩ := hrel
        by_cases hlt : k < n
        · obtain ⟨b1, o1, rfl, hb1, hx0⟩ := SRow.at_ HR.out hlt
          have hk1 : k < l.length := by rw [HL.out]; exact hlt
          have HF := Lib.hid (fun h => find_at H1.out H2.out hk1 HT.out h)
          have HN := Lib.hid (fun h => find_next hk1 HT.out h)
          generalize l[k] = x at *
          obtain ⟨c0, c1, ⟨A1, i1, j1, c2, R1, N1⟩, c3, ⟨A2, i2, j2, c4, R2, N2⟩, ⟨A3, i3, j3, c5, R3, N3⟩⟩ := hx0
          have HH := Lib.hid (show Held w x _ from ⟨A1, i1, j1, A2, i2, j2, A3, i3, j3, rfl, R1, R2, R3, N1, N2, N3⟩)
          clear R1 R2 R3 N1 N2 N3
          by_cases he : x.nm = y
          · have e3 : ((bs x.nm).toList == (bs y).toList) = true := by simp [he]
            have HC := Lib.hid (HF.out he)
            clear HN HF he
            go_wp2
            refine bodyPost_ret (v := .tuple #[.agg #[.string (bs x.nm), .string (bs x.su), .slice A1 i1 j1, .bool x.face, .slice A2 i2 j2, .slice A3 i3 j3], .bool true]) ?_ rfl ⟨_, by rw [show knownB l y = true by unfold knownB; rw [HC.out]; rfl], by rw [classD_some HC.out]; exact HH.out.below (al1 _ _), al1 _ _⟩
            simp [results, Tryz.results28, go_sem, *]
          · have e3 : ((bs x.nm).toList == (bs y).toList) = false := str_ne_ he
            have HN2 := Lib.hid (HN.out he)
            clear HN HF he
            go_wp2
            go_round
            case rel => exact ⟨k + 1, by omega, by go_num, HN2⟩
            case measure => first | (simp [intOf]; omega) | simp [intOf]
        · obtain rfl : k = n := by omega
          have hno := HT.out
          rw [List.take_of_length_le (by rw [HL.out]; exact Nat.le_refl _)] at hno
          have HC := Lib.hid (find_no H1.out H2.out hno)
          clear hno
          go_wp2
          refine bodyPost_ret (v := .tuple #[.agg #[.string ⟨#[]⟩, .string ⟨#[]⟩, .slice none 0 0, .bool false, .slice none 0 0, .slice none 0 0], .bool false]) ?_ rfl ⟨_, by rw [show knownB l y = false by unfold knownB; rw [HC.out]; rfl], held_none _ HC.out, al1 _ _⟩
          simp [results, Tryz.results28, go_sem, *]
end Go.Proofs.YtdpkjmdmmhnfnaaGreatDoor
