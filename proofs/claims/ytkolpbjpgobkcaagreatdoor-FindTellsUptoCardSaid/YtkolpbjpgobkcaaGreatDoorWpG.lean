/- Package world: Check, All. -/
import Derived.Test.YtkolpbjpgobkcaaGreatDoorWpF
import Derived.Test.YtkolpbjpgobkcaaGreatDoorIter
import Derived.Sort.KeysCollected
import Derived.Deep.Onto
namespace Go.Proofs.YtkolpbjpgobkcaaGreatDoor
open Go.ChangeShapes Go.WideShapes Go.ChangeAt Go.RowKit Go.Maps
set_option linter.unusedVariables false
attribute [local go_sem] eqGuard_errV_nil eqGuard_errV_iface eql_errV_nil neq_errV_nil eql_errV_form

/-! The names of a set, sorted. -/
theorem strKeys_of {D : DataW Unit} {w : World} {b n : Nat} {pre : List (List UInt8)} (h : w.ownsMap Tryz.prog 9 (plainElem Tryz.prog 4) b n D) (hn : pre.Nodup) (hh : ∀ y : List UInt8, has D (.string y) = pre.any (· == y)) : pre.Perm (strKeys D) := by
  obtain ⟨es, rfl, hk⟩ := h.keysOf
  obtain ⟨es', e, hp⟩ := h.tidy str_keyed
  cases e
  refine perm_strKeys hp (fun p hp' => ?_) hn fun x => ?_
  · obtain ⟨v, hv⟩ := hk p hp'
    obtain ⟨x, _, hx, _⟩ := Maps.keyOf_str Tryz.underlying9 hv
    exact ⟨x, hx⟩
  · rw [hh x]
    exact any_mem.symm
theorem sorted_merge (ss : List (List UInt8)) (hn : ss.Nodup) : (ss.mergeSort (fun x y => decide (x ≤ y))).Pairwise (· < ·) := by
  have h1 : (ss.mergeSort (fun x y => decide (x ≤ y))).Pairwise (fun a b => decide (a ≤ b) = true) :=
    List.pairwise_mergeSort (fun a b c h1 h2 => by simp only [decide_eq_true_eq] at *; exact List.le_trans h1 h2) (fun a b => by simp only [Bool.or_eq_true, decide_eq_true_eq]; exact List.le_total a b) ss
  have h2 : (ss.mergeSort (fun x y => decide (x ≤ y))).Nodup := (List.mergeSort_perm ss _).nodup_iff.2 hn
  exact (h1.and h2).imp fun {a b} h => by
    rcases List.le_iff_lt_or_eq.1 (of_decide_eq_true h.1) with h' | h'
    · exact h'
    · exact absurd h' h.2
/-- What maps.Keys hands back. -/
def seqV (w : World) : Value := .func (.func 58) #[] #[.pointer (some ⟨w.heap.size, 0, none⟩)]
theorem keys_any (g : Nat) (w : World) : Calls Tryz.prog 46 #[.map (some g)] w fun e w' => e = .returned (seqV w) ∧ w' = w.alloc (.cells #[.map (some g)] 86) :=
  callsIn_wide.1 (Tryz.keysOf (some g) w)
theorem sorted_any {w : World} {g n : Nat} {pre : List (List UInt8)} (h : NameSet w g n pre) (hn : pre.Nodup) (h13 : n ≤ 1000) :
    Calls Tryz.prog 45 #[seqV w] (w.alloc (.cells #[.map (some g)] 86)) fun e w' => ∃ v s, e = .returned v ∧ Own w' (w.heap.size + 1) v s ∧ s.Pairwise (· < ·) ∧ (∀ x, x ∈ s ↔ x ∈ pre) ∧ s.length = pre.length ∧ Below (w.alloc (.cells #[.map (some g)] 86)).heap.size (w.alloc (.cells #[.map (some g)] 86)) w' := by
  obtain ⟨D, hown, _, hh⟩ := h
  have hsz := hown.size_le
  have hp := strKeys_of hown hn hh
  refine (callsIn_wide.1 (Tryz.sortedKeys g n D _ w hown (by unfold maxLen; omega) (by omega))).mono ?_
  rintro e w' ⟨v, ss, rfl, h1, h2, _, h4⟩
  have hss : ss.Perm pre := h1.trans hp.symm
  have hms := List.mergeSort_perm ss (fun x y => decide (x ≤ y))
  refine ⟨v, ss.mergeSort (fun x y => decide (x ≤ y)), rfl, ?_, sorted_merge ss (hss.nodup_iff.2 hn), fun x => hms.mem_iff.trans hss.mem_iff, by rw [List.length_mergeSort]; exact hss.length_eq, h4⟩
  unfold Own
  rw [List.length_mergeSort]
  rw [show (w.alloc (.cells #[.map (some g)] 86)).heap.size = w.heap.size + 1 by simp] at h2
  exact h2

theorem lists_fault (w w' : World) {q : Nat} (rel : List (List UInt8) → Prop) (h : q ≠ 0) (hb : Below w.heap.size w w') : Lists w q rel (.returned (.tuple #[.slice none 0 0, errV q])) w' :=
  ⟨_, [], rfl, Own.nil_ _ _, fun h0 => absurd h0 h, fun _ => rfl, Nat.zero_le _, hb⟩
theorem find_bad {l : List ClassD} {q : Nat} {y : List UInt8} {w0 w w' : World} {e : Ending} (h : FindSays l q y w0 w e w') (h0 : namedQ l q y ≠ 0) : e = .returned (.tuple #[.map none, zeroV, errV (namedQ l q y)]) ∧ Below w.heap.size w w' := by
  obtain ⟨hb, ⟨_, he⟩ | ⟨h1, _⟩⟩ := h
  · exact ⟨he, hb⟩
  · exact absurd h1 h0
theorem find_good {l : List ClassD} {q : Nat} {y : List UInt8} {w0 w w' : World} {e : Ending} (h : FindSays l q y w0 w e w') (h0 : namedQ l q y = 0) : ∃ b v, e = .returned (.tuple #[.map (some b), v, .nilIface]) ∧ Valid l ∧ knownB l y = true ∧ w.heap.size ≤ b ∧ ClassMap w0 w' b 12 l ∧ Held w0 (classD l y) v ∧ Below w.heap.size w w' := by
  obtain ⟨hb, ⟨h1, _⟩ | ⟨_, hv, hk, b, v, he, h2, h3, h4⟩⟩ := h
  · exact absurd h0 h1
  · exact ⟨b, v, he, hv, hk, h2, h3, h4, hb⟩

set_option maxRecDepth 20000 in
set_option maxHeartbeats 8000000 in
theorem world_alls : WorldAlls := by
  intro l q y A n c w hq T R hA hu hw hn hy
  have hF := find_any l q y A n c w w (Below.refl _ _) hq T R hu hw hn hy
  have HY := Lib.hid (show y.length ≤ maxLen from Nat.le_trans hy (by decide))
  have HYs := Lib.hid hy
  have HU := Lib.hid hu
  clear hq T R hA hu hw hy
  by_cases h0 : namedQ l q y = 0
  · have HF := Lib.hid (hF.mono fun _ _ h => find_good h h0)
    clear hF
    have hz : errV (namedQ l q y) = .nilIface := by rw [h0]; rfl
    have H0 := Lib.hid h0
    clear h0
    go_enter Tryz.func36, Tryz.ntmps36
    go_wp2_with (first
      | (go_at_call 30; (with_reducible refine HF.out.mono ?_); rintro e w1 ⟨b, v, rfl, hval, hk, hbs, hm, hv, hb⟩
         have hv0 := hv
         obtain ⟨A1, i1, j1, A2, i2, j2, A3, i3, j3, rfl, _⟩ := hv0
         have HVal := Lib.hid hval
         have HB1 := Lib.hid (hb.alloc hb.size (.cells #[.string (bs (classD l y).nm), .string (bs (classD l y).su), .slice A1 i1 j1, .bool (classD l y).face, .slice A2 i2 j2, .slice A3 i3 j3] 51))
         have HX := Lib.hid (cbox_at w1 (classD l y) A1 i1 j1 A2 i2 j2 A3 i3 j3 51 (0, 0))
         have HM1 := Lib.hid (hm.below (al1 w1 (.cells #[.string (bs (classD l y).nm), .string (bs (classD l y).su), .slice A1 i1 j1, .bool (classD l y).face, .slice A2 i2 j2, .slice A3 i3 j3] 51)))
         have HAb := Lib.hid (above_any l hval.1 HU.out w b 12 y _ _ hk hv HM1.out HB1.out)
         have hyn : (classD l y).nm = y := by
           obtain ⟨c, hc⟩ := known_some hk
           rw [classD_some hc]
           exact classOf_nm hc
         have HYn := Lib.hid hyn
         clear hb hm hbs hval hk hv hyn)
      | (go_at_call 44; (with_reducible refine HAb.out.mono ?_); rintro e w2 ⟨g, out, rfl, hg, hnd, hle, hmem, hs, hb⟩
         obtain ⟨q0, q1, q2, q3, q4, q5, q6⟩ := HX.out.below hb
         rw [HYn.out] at q1
         have HB2 := Lib.hid (bnext HB1.out hb)
         have HS2 := Lib.hid hs
         have HNd := Lib.hid (nodup_more hnd (show y ∉ out from fun h => HVal.out.no_loop y ((hmem y).1 h)))
         have HMe := Lib.hid hmem
         have hgw : w.heap.size ≤ g := by have := HB1.out.size; omega
         have hle2 : out.length ≤ 12 := hle
         clear hb hs hnd hmem hle hg)
      | (at_mapUpdate; refine wpList_add _ rfl _ _ _ rfl g _ out rfl HS2.out (by unfold maxLen; omega) y rfl HY.out rfl ?_
         intro w3 hs3 hg3
         have HB3 := Lib.hid (HB2.out.grown hg3 HB2.out.size (fun i hi => by cases hi; exact hgw))
         have HS3 := Lib.hid hs3
         clear hs3 hg3)
      | (go_at_call 46; (with_reducible refine (keys_any g _).mono ?_); rintro e w4 ⟨rfl, rfl⟩)
      | (go_at_call 45; (with_reducible refine (sorted_any HS3.out HNd.out (by omega)).mono ?_); rintro e w5 ⟨v5, s, rfl, ho, hpw, hms, hln, hb⟩
         have HB5 := Lib.hid (bnext (HB3.out.alloc HB3.out.size _) hb)
         have HCp := Lib.hid (copied_any s _ v5 w5 ho (by have := hb.size; simp at this; omega) (fun x hx => by
           rcases List.mem_append.1 ((hms x).1 hx) with h1 | h1
           · exact known_size HU.out (HVal.out.1.upKnown ((HMe.out x).1 h1))
           · obtain rfl := List.mem_singleton.1 h1
             exact HYs.out) (by rw [hln]; simp; omega))
         have HSo := Lib.hid (show Sorted l y s from ⟨hpw, fun x => (hms x).trans (by
           rw [List.mem_append, List.mem_singleton, HMe.out x]
           exact or_comm)⟩)
         have hl13 : s.length ≤ 13 := by rw [hln]; simp; omega
         clear hb ho hpw hms hln)
      | (go_at_call 31; (with_reducible refine HCp.out.mono ?_); rintro e w6 ⟨rfl, ho, hb⟩
         have HO6 := Lib.hid ho
         have HB6 := Lib.hid (HB5.out.trans (hb.mono (by have := HB3.out.size; omega)))
         clear ho hb))
    go_ret2
    exact ⟨v5, s, by rw [H0.out]; rfl, World.ownsRow.mono HO6.out (by have := HB3.out.size; omega), fun _ => HSo.out, fun h => absurd H0.out h, hl13, HB6.out⟩
  · have HF := Lib.hid (hF.mono fun _ _ h => find_bad h h0)
    have hne : (namedQ l q y != 0) = true := by rw [bne_iff_ne]; exact h0
    have H0 := Lib.hid h0
    clear hF h0
    unfold zeroV at HF
    go_enter Tryz.func36, Tryz.ntmps36
    go_wp2_with (first
      | (go_at_call 30; (with_reducible refine HF.out.mono ?_); rintro e w1 ⟨rfl, hb⟩
         have HB1 := Lib.hid (hb.alloc hb.size (.cells #[.string ⟨#[]⟩, .string ⟨#[]⟩, .slice none 0 0, .bool false, .slice none 0 0, .slice none 0 0] 51))
         clear hb))
    go_ret2
    exact lists_fault _ _ _ H0.out HB1.out
end Go.Proofs.YtkolpbjpgobkcaaGreatDoor
