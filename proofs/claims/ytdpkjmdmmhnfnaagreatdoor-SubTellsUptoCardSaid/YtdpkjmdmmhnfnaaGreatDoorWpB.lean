/- Package world: parents, copied. -/
import Derived.Test.YtdpkjmdmmhnfnaaGreatDoorWpA
import Derived.Laws.OwnMore
namespace Go.Proofs.YtdpkjmdmmhnfnaaGreatDoor
open Go.ChangeShapes Go.WideShapes Go.ChangeAt Go.RowKit Go.Maps
set_option linter.unusedVariables false

/-- What parents says of a class. -/
def ClassD.pars (c : ClassD) : List (List UInt8) := if c.nm = objB then [] else c.su :: c.faces
theorem Own.from_ {w : World} {base : Nat} {A : Option Addr} {n c : Nat} {l : List (List UInt8)} (h : Own w base (.slice A n c) l) : ∀ a, A = some a → base ≤ a.block := fun a e => by
  subst e
  rcases h.2 with ⟨hv, _⟩ | ⟨g, cap, cur, hv, hb, _⟩
  · simp at hv
  · obtain ⟨rfl, _⟩ : a = ⟨g, 0, none⟩ ∧ _ := by simpa using hv
    exact hb

set_option maxRecDepth 20000 in
theorem parents_any (x : ClassD) (v : Value) (w : World) (h : Held w x v) (hf : x.faces.length ≤ 1000) : Calls Tryz.prog 67 #[v] w (Gives w x.pars) := by
  obtain ⟨A1, i1, j1, A2, i2, j2, A3, i3, j3, rfl, RF, _, _, NF, _, _⟩ := h
  have hl1 : x.faces.length = i1 := RF.1
  have HB0 := Lib.hid (al1 w (.cells #[.string (bs x.nm), .string (bs x.su), .slice A1 i1 j1, .bool x.face, .slice A2 i2 j2, .slice A3 i3 j3] 48))
  have HRF := Lib.hid (RF.below HB0.out)
  replace NF := Lib.hid NF
  clear RF
  by_cases hn : x.nm = objB
  · have e1 : ((bs x.nm).toList == [79, 98, 106, 101, 99, 116]) = true := lst_yes hn
    have HU := Lib.hid (show x.pars = [] by unfold ClassD.pars; rw [if_pos hn])
    clear hn
    go_enter Tryz.func67, Tryz.ntmps67
    go_wp2_with fail
    go_ret
    exact ⟨_, rfl, by rw [HU.out]; exact Own.nil_ _ _, HB0.out⟩
  · have e1 : ((bs x.nm).toList == [79, 98, 106, 101, 99, 116]) = false := lst_no hn
    have HU := Lib.hid (show x.pars = [x.su] ++ x.faces by unfold ClassD.pars; rw [if_neg hn]; rfl)
    clear hn
    go_enter Tryz.func67, Tryz.ntmps67
    go_wp2_with (first
      | (at_builtin; refine wpList_strs rfl _ _ rfl w.heap.size (.slice (some ⟨w.heap.size + 1, 0, none⟩) 1 1) [x.su] rfl (own_lit2 w _ w.heap.size x.su (Nat.le_refl _)) A1 i1 j1 x.faces rfl (HRF.out.below (al1 _ _)) NF.out (by simp; omega) (by simp; omega) ?_
         intro v1 w1 hv1 hb1 _ _
         have HV1 := Lib.hid hv1
         have HB1 := Lib.hid ((HB0.out.alloc (by simp) (.cells #[.string (bs x.su)] 9)).trans hb1)
         clear hv1 hb1))
    go_ret
    exact ⟨_, rfl, by rw [HU.out]; exact HV1.out, HB1.out⟩

theorem own_at {w : World} {base : Nat} {A : Option Addr} {n c : Nat} {l : List (List UInt8)} (h : Own w base (.slice A n c) l) {k : Nat} (hk : k < l.length) :
    ∃ g, A = some ⟨g, 0, none⟩ ∧ base ≤ g ∧ g < w.heap.size ∧ n = l.length ∧ w.cell? ⟨g, k, none⟩ = some (.string (bs l[k])) ∧ w.frozen? ⟨g, k, none⟩ = false := by
  have hlt := World.ownsRow.lt h
  have hfr := h.from_
  have hn : n = l.length := by obtain ⟨B, d, e⟩ := own_form h; simpa using (by simpa using e : _ ∧ _ ∧ _).2.1
  subst hn
  rcases h.2 with ⟨hv, h0⟩ | ⟨g, cap, cur, hv, _⟩
  · omega
  · obtain ⟨rfl, _⟩ : A = some ⟨g, 0, none⟩ ∧ _ := by simpa using hv
    have h1 := World.ownsRow.cellAt h k (by omega)
    have h2 := World.ownsRow.frozenAt h k
    refine ⟨g, rfl, hfr _ rfl, (hlt g rfl).2, rfl, ?_, h2⟩
    rw [h1, List.getElem?_map, List.getElem?_eq_getElem hk]
    rfl
theorem Own.same {w : World} {base g c : Nat} {l : List (List UInt8)} (h : Own w base (.slice (some ⟨g, 0, none⟩) l.length c) l) {k : Nat} (hk : k < l.length) : Own (w.setCell ⟨g, k, none⟩ (.string (bs l[k]))) base (.slice (some ⟨g, 0, none⟩) l.length c) l := by
  have := (World.ownsRow.stored h k (.string (bs l[k]))).1
  have e : (l.map strV).set k (.string (bs l[k])) = l.map strV := by
    apply List.ext_getElem
    · simp
    · intro i h1 h2
      rw [List.getElem_set]
      split
      · rename_i e; subst e; simp [strV]
      · rfl
  unfold Own
  rw [← e]
  exact this

set_option maxRecDepth 20000 in
set_option maxHeartbeats 4000000 in
theorem copied_any (l : List (List UInt8)) (base : Nat) (v : Value) (w : World) (h : Own w base v l) (hb : base ≤ w.heap.size) (hu : ∀ x ∈ l, x.length ≤ 140737488351232) (hl : l.length ≤ 1000) :
    Calls Tryz.prog 35 #[v] w fun e w' => e = .returned v ∧ Own w' base v l ∧ Below base w w' := by
  obtain ⟨A, c, rfl⟩ := h.form
  have HO := Lib.hid h
  have HU := Lib.hid hu
  clear h hu
  go_enter Tryz.func35, Tryz.ntmps35
  go_wp2_with fail
  go_loopw [3, 4, 7] (fun _ _ i wr => ∃ k : Nat, k ≤ l.length ∧ i = .int .i64 k ∧ Hid (Own wr base (.slice A l.length c) l) ∧ Hid (Below base w wr)) (fun _ _ i _ => l.length - (intOf i).toNat)
  case atStart => exact ⟨0, Nat.zero_le _, rfl, HO, Lib.hid (Below.refl _ _)⟩
  case round =>
    obtain ⟨k, hk, rfl, HOr, HB⟩ := hrel
    by_cases hlt : k < l.length
    · obtain ⟨g, rfl, hg, hgw, _, hc, hf⟩ := own_at HOr.out hlt
      have hx := HU.out _ (List.getElem_mem hlt)
      have HCl := Lib.hid (clone_any (bs l[k]) wr (by rw [bs_size]; omega))
      have HS := Lib.hid (fun (W : World) (h : Own W base (.slice (some ⟨g, 0, none⟩) l.length c) l) => h.same hlt)
      have hbs := HB.out.size
      generalize l[k] = x at *
      go_wp2_with (first
        | (go_at_call 52; (with_reducible refine HCl.out.mono ?_); rintro e w2 ⟨rfl, hb2⟩
           have hf2 := (hb2.frozen (p := ⟨g, k, none⟩) hgw).trans hf
           have hc2 := (hb2.cell (p := ⟨g, k, none⟩) hgw).trans hc
           have HO2 := Lib.hid (HS.out _ (HOr.out.below hb2))
           have HB2 := Lib.hid ((HB.out.trans (hb2.mono (by omega))).setCell (p := ⟨g, k, none⟩) hg (.string (bs x)))
           clear hb2))
      go_roundw
      case rel => exact ⟨k + 1, by omega, by go_num, HO2, HB2⟩
      case measure => first | (simp [intOf]; omega) | simp [intOf]
    · obtain rfl : k = l.length := by omega
      go_wp2
      go_ret
      exact ⟨rfl, HOr.out, HB.out⟩
end Go.Proofs.YtdpkjmdmmhnfnaaGreatDoor
