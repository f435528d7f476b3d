/- What Reach, Next and After say, as rows; sets. -/
import Derived.Test.YtjfcmkjlmkgioaaDoorFlS
namespace Go.Proofs.YtjfcmkjlmkgioaaDoor
open Go.ChangeShapes Go.WideShapes Go.ChangeAt Go.RowKit
set_option linter.unusedVariables false

theorem ints_none (w : World) : Calls Tryd.prog 17 #[.slice none 0 0, .slice none 0 0] w fun e w' => e = .returned (.bool true) ∧ Below w.heap.size w w' :=
  ints_same none none 0 0 0 [] w (Row.nil_ _ _ _) (Row.nil_ _ _ _) (by decide)
theorem row_0 (w : World) (t : TypeId) (x : Nat × Nat) : Row (w.alloc (.cells #[.int .i64 0] t x)) (some ⟨w.heap.size, 0, none⟩) 1 1 ([0].map natV) := Row.nat1 w 0 t x
theorem blk_0 (w : World) (o : Obj) : ∀ a : Addr, some (⟨w.heap.size, 0, none⟩ : Addr) = some a → a.block < (w.alloc o).heap.size := fun a ha => by
  obtain rfl := Option.some.inj ha
  simp
theorem after_gives {w w' : World} {xs : List Nat} {e : Ending} (h : AfterSays w xs e w') : ∃ A c, e = .returned (.slice A xs.length c) ∧ Row w' A xs.length c (xs.map natV) ∧ Below w.heap.size w w' := by
  obtain ⟨v, rfl, hv, hb⟩ := h
  obtain ⟨A, c, rfl, hr, _⟩ := own_row hv
  exact ⟨A, c, rfl, hr, hb⟩
theorem reach_row {w w' : World} {l : List InsD} {xs : List Nat} {e : Ending} (h : ReachSays w l xs e w') (h0 : flowF l = 0) :
    ∃ A c, e = .returned (.tuple #[.slice A xs.length c, .nilIface]) ∧ Row w' A xs.length c (xs.map natV) ∧ Below w.heap.size w w' := by
  obtain ⟨v, rfl, hv, hb⟩ := reach_gives h h0
  obtain ⟨A, c, rfl, hr, _⟩ := own_row hv
  exact ⟨A, c, rfl, hr, hb⟩
theorem next_row {w w' : World} {l : List InsD} {j : Nat} {e : Ending} (h : NextSays w l (j : Int) e w') (h0 : flowF l = 0) (hj : j < l.length) :
    ∃ A c, e = .returned (.tuple #[.slice A (aftM l j).length c, .nilIface]) ∧ Row w' A (aftM l j).length c ((aftM l j).map natV) ∧ Below w.heap.size w w' := by
  obtain ⟨v, rfl, hv, hb⟩ := next_gives h h0 hj
  obtain ⟨A, c, rfl, hr, _⟩ := own_row hv
  exact ⟨A, c, rfl, hr, hb⟩
theorem next_far {w w' : World} {l : List InsD} {k : Int} {e : Ending} (h : NextSays w l k e w') (h0 : flowF l = 0) (hk : ¬ (0 ≤ k ∧ k < (l.length : Int))) :
    e = .returned (.tuple #[.slice none 0 0, errV 2]) ∧ Below w.heap.size w w' := by
  obtain ⟨hb, ⟨hn, _⟩ | ⟨_, _, he⟩ | ⟨_, i, hi, hlt, _⟩⟩ := h
  · exact absurd h0 hn
  · exact ⟨he, hb⟩
  · exact absurd ⟨by omega, by omega⟩ hk
theorem next_fails {w w' : World} {l : List InsD} {k : Int} {e : Ending} (h : NextSays w l k e w') (h0 : flowF l ≠ 0) :
    e = .returned (.tuple #[.slice none 0 0, errV (flowF l)]) ∧ Below w.heap.size w w' := by
  obtain ⟨hb, ⟨_, he⟩ | ⟨hn, _⟩ | ⟨hn, _⟩⟩ := h
  · exact ⟨he, hb⟩
  · exact absurd hn h0
  · exact absurd hn h0
theorem next_fresh {w w' : World} {l : List InsD} {j : Nat} {e : Ending} (h : NextSays w l (j : Int) e w') (h0 : flowF l = 0) (hj : j < l.length) :
    ∃ A c, e = .returned (.tuple #[.slice A (aftM l j).length c, .nilIface]) ∧ Row w' A (aftM l j).length c ((aftM l j).map natV) ∧ Below w.heap.size w w' ∧ (∀ a, A = some a → w.heap.size ≤ a.block) := by
  obtain ⟨v, rfl, hv, hb⟩ := next_gives h h0 hj
  obtain ⟨A, c, rfl, hr, ha⟩ := own_row hv
  exact ⟨A, c, rfl, hr, hb, fun a h => (ha a h).1⟩
theorem found_made2 (w : World) (o : Obj) (n : Nat) : Found ((w.alloc o).alloc (.cells (madeCells #[.bool false] n) 4)) (w.heap.size + 1) n (fun _ => false) := by
  have h := found_made (w.alloc o) n
  rwa [show (w.alloc o).heap.size = w.heap.size + 1 by simp] at h
end Go.Proofs.YtjfcmkjlmkgioaaDoor
