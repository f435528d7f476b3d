/- The contract of law1.flowing. -/
import Derived.Test.YtjfcmkjlmkgioaaDoorFl4
namespace Go.Proofs.YtjfcmkjlmkgioaaDoor
open Go.ChangeShapes Go.WideShapes Go.ChangeAt Go.RowKit
set_option linter.unusedVariables false
attribute [local go_sem] eqGuard_errV_nil eqGuard_errV_iface eql_errV_nil neq_errV_nil eql_errV_form

/-- What Next says of valid code and one of its indices; of an error. -/
theorem next_gives {w w' : World} {l : List InsD} {j : Nat} {e : Ending} (h : NextSays w l (j : Int) e w') (h0 : flowF l = 0) (hj : j < l.length) :
    ∃ v, e = .returned (.tuple #[v, .nilIface]) ∧ w'.ownsRow w.heap.size 3 1 v (aftM l j).length ((aftM l j).map natV) ∧ Below w.heap.size w w' := by
  obtain ⟨hb, ⟨hn, _⟩ | ⟨_, hk, _⟩ | ⟨_, i, hi, _, v, rfl, hv⟩⟩ := h
  · exact absurd h0 hn
  · exact absurd (by omega) hk
  · obtain rfl : j = i := by omega
    exact ⟨v, rfl, hv, hb⟩
theorem reach_gives {w w' : World} {l : List InsD} {xs : List Nat} {e : Ending} (h : ReachSays w l xs e w') (h0 : flowF l = 0) :
    ∃ v, e = .returned (.tuple #[v, .nilIface]) ∧ w'.ownsRow w.heap.size 3 1 v xs.length (xs.map natV) ∧ Below w.heap.size w w' := by
  obtain ⟨hb, ⟨_, v, rfl, hv⟩ | ⟨hn, _⟩⟩ := h
  · exact ⟨v, rfl, hv, hb⟩
  · exact absurd h0 hn
theorem reach_fails {w w' : World} {l : List InsD} {xs : List Nat} {e : Ending} (h : ReachSays w l xs e w') (h0 : flowF l ≠ 0) :
    e = .returned (.tuple #[.slice none 0 0, errV (flowF l)]) ∧ Below w.heap.size w w' := by
  obtain ⟨hb, ⟨hn, _⟩ | ⟨_, he⟩⟩ := h
  · exact absurd hn h0
  · exact ⟨he, hb⟩
theorem InsRow.litL (w : World) (l : List InsD) (cs : Array Value) (hcs : cs.toList = l.flatMap insC) (t : TypeId) (f : Nat × Nat) : InsRow (w.alloc (.cells cs t f)) (some ⟨w.heap.size, 0, none⟩) l.length l.length l := by
  refine ⟨rfl, Nat.le_refl _, fun _ => ⟨_, _, rfl, by simp, fun j x hx => insAt_of _ _ _ fun k u hu => ?_⟩⟩
  have e := cells_at_ hx hu
  rw [← hcs, Array.getElem?_toList] at e
  rw [show (0 : Nat) + j * 6 + k = j * 6 + k by omega]
  exact (World.cell?_alloc_mark w cs t f _).trans e
def sampleL : List InsD := [⟨12, 2, 0, [], [], []⟩, ⟨1, 0, 0, [], [], []⟩, ⟨26, 0, 0, [], [], []⟩]
theorem sample_row (w : World) (t : TypeId) (f : Nat × Nat) : InsRow (w.alloc (.cells #[.int .i64 12, .int .i64 2, .int .i64 0, .string ⟨#[]⟩, .string ⟨#[]⟩, .string ⟨#[]⟩, .int .i64 1, .int .i64 0, .int .i64 0, .string ⟨#[]⟩, .string ⟨#[]⟩, .string ⟨#[]⟩, .int .i64 26, .int .i64 0, .int .i64 0, .string ⟨#[]⟩, .string ⟨#[]⟩, .string ⟨#[]⟩] t f)) (some ⟨w.heap.size, 0, none⟩) 3 3 sampleL :=
  InsRow.litL w sampleL _ rfl t f
theorem row_12 (w : World) (t : TypeId) (x : Nat × Nat) : Row (w.alloc (.cells #[.int .i64 1, .int .i64 2] t x)) (some ⟨w.heap.size, 0, none⟩) 2 2 ([1, 2].map natV) := Row.nat2 w 1 2 t x
theorem sample_wf : ∀ x ∈ sampleL, x.wf := by
  intro x hx
  simp only [sampleL, List.mem_cons, List.not_mem_nil, or_false] at hx
  rcases hx with rfl | rfl | rfl <;> (refine ⟨?_, ?_, ?_⟩ <;> (unfold i64B; decide))
theorem sample_fits : ∀ x ∈ sampleL, x.fits := by
  intro x hx
  simp only [sampleL, List.mem_cons, List.not_mem_nil, or_false] at hx
  rcases hx with rfl | rfl | rfl <;> exact ⟨Nat.zero_le _, Nat.zero_le _, Nat.zero_le _⟩
theorem sample_ok : flowF sampleL = 0 := by decide
theorem sample_aft : aftM sampleL 0 = [1, 2] := by decide
theorem below_drawsN {w a : World} {B : Nat} (h : Below B w a) (n : Nat) : Below B w (a.drewN n) := ⟨h.os, h.tape, h.output, h.size, h.block⟩
set_option maxRecDepth 20000 in
set_option maxHeartbeats 2000000 in
theorem flowing_any (w : World) (T : Tab w) : Calls Tryd.prog 8 #[] w fun e w' => e = .returned (.bool true) ∧ Below w.heap.size w w' := by
  have HN := Lib.hid (fun (W : World) A c (T : Tab W) (R : InsRow W A 3 c sampleL) => (next_any sampleL A 3 c 0 W T R sample_wf sample_fits).mono fun e w' h => (next_gives (j := 0) h sample_ok (by decide)))
  have HI := Lib.hid (fun (W : World) A B c d R S => (ints_any A B 2 2 c d [1, 2] [1, 2] W R S (by decide)))
  have HT := Lib.hid T
  rw [sample_aft] at HN
  clear T
  go_enter Tryd.func8, Tryd.ntmps8
  go_wp2_with (first
    | (go_at_call 13; (with_reducible refine (HN.out _ _ _ (HT.out.below (al1 _ _)) (sample_row _ _ _)).mono ?_); rintro e w1 ⟨v, rfl, hv, hb⟩
       obtain ⟨B1, d1, rfl, hr, _⟩ := own_row (n := 2) hv
       have HR1 := Lib.hid hr
       have HB1 := Lib.hid (bnext (al1 _ _) hb)
       clear hv hb hr)
    | (go_at_call 17; (with_reducible refine (HI.out _ _ _ _ _ (HR1.out.alloc _) (row_12 _ _ _)).mono ?_); rintro e w2 ⟨rfl, q, rfl⟩))
  go_ret
  exact ⟨rfl, below_drawsN (bnext HB1.out (al1 _ _)) _⟩
theorem ints_same (A B : Option Addr) (n c d : Nat) (xs : List Nat) (w : World) (ha : Row w A n c (xs.map natV)) (hb : Row w B n d (xs.map natV)) (hm : n < 4611686018427387904) :
    Calls Tryd.prog 17 #[.slice A n c, .slice B n d] w fun e w' => e = .returned (.bool true) ∧ Below w.heap.size w w' :=
  (ints_any A B n n c d xs xs w ha hb hm).mono fun _ _ ⟨he, k, hw⟩ => ⟨by rw [he]; simp, by subst hw; exact ⟨rfl, rfl, rfl, Nat.le_refl _, fun _ _ => rfl⟩⟩
end Go.Proofs.YtjfcmkjlmkgioaaDoor
