/- law2.walks, law2.found, from what package find says. -/
import Derived.Test.YtkolpbjpgobkcaaGreatDoorFiK
namespace Go.Proofs.YtkolpbjpgobkcaaGreatDoor
open Go.ChangeShapes Go.WideShapes Go.ChangeAt Go.RowKit
set_option linter.unusedVariables false
attribute [local go_sem] eqGuard_errV_nil eqGuard_errV_iface eql_errV_nil neq_errV_nil eql_errV_form

def fishB : List UInt8 := [70, 105, 115, 104]
def legsB : List UInt8 := [108, 101, 103, 115]
def tailB : List UInt8 := [116, 97, 105, 108]
def walkM : MethD := ⟨[119, 97, 108, 107], [40, 41, 86], false, false, false, 1, [⟨26, 0, 0, [], [], []⟩], []⟩
def walkL : List ClassD := [⟨beastB, objB, [], false, [⟨legsB, [73]⟩], [walkM]⟩, ⟨catB, beastB, [], false, [⟨tailB, [74]⟩], [walkM]⟩, ⟨fishB, beastB, [], false, [], []⟩]
theorem walk_joined : Joined walkL := ⟨by decide, by decide +kernel, by decide⟩
theorem walk_beast {x : List UInt8} (h : Up walkL beastB x) : x = objB := h.within (s := fun z => z = objB) (fun z hz => by
    have : upsOf walkL beastB = [objB] := by decide
    rw [this] at hz
    exact List.mem_singleton.1 hz) (fun z hz y hy => by
    subst hz
    have : upsOf walkL objB = [] := by decide
    rw [this] at hy
    cases hy)
theorem walk_over (b : List UInt8) (hb : upsOf walkL b = [beastB]) {x : List UInt8} (h : Up walkL b x) : x = beastB ∨ x = objB := h.within (s := fun z => z = beastB ∨ z = objB) (fun z hz => by
    rw [hb] at hz
    exact .inl (List.mem_singleton.1 hz)) (fun z hz y hy => by
    rcases hz with rfl | rfl
    · exact .inr (walk_beast (.one hy))
    · have : upsOf walkL objB = [] := by decide
      rw [this] at hy
      cases hy)
theorem walk_valid : Valid walkL := ⟨walk_joined, fun ⟨c, hc, h⟩ => by
  rcases List.mem_cons.1 hc with rfl | hc
  · exact absurd (walk_beast h) (by decide)
  · rcases List.mem_cons.1 hc with rfl | hc
    · rcases walk_over _ (by decide) h with h | h
      · exact absurd h (by decide)
      · exact absurd h (by decide)
    · obtain rfl := List.mem_singleton.1 hc
      rcases walk_over _ (by decide) h with h | h
      · exact absurd h (by decide)
      · exact absurd h (by decide)⟩
theorem walk_is : WorldIs walkL 0 := .inr (.inr (.inr (.inr ⟨walk_valid.1, walk_valid.2, rfl⟩)))
theorem walk_chain : Chain walkL catB [catB, beastB, objB] :=
  .up (c := ⟨catB, beastB, [], false, [⟨tailB, [74]⟩], [walkM]⟩) (by decide) (by decide) (.up (c := ⟨beastB, objB, [], false, [⟨legsB, [73]⟩], [walkM]⟩) (by decide) (by decide) (.top (c := objC) (by decide) rfl))
theorem cat_legs : FieldIs walkL 0 catB legsB (some (beastB, ⟨legsB, [73]⟩)) := ⟨fun _ => ⟨_, walk_chain, by decide⟩, fun h => absurd (by decide) h⟩
theorem upto_walk : ∀ x ∈ walkL, x.upto 140737488351232 := by
  unfold walkL walkM ClassD.upto MethD.upto InsD.upto HandD.upto FieldD.upto
  simp [beastB, objB, catB, legsB, tailB, fishB]
theorem wf_walk : ∀ x ∈ walkL, x.wf := by
  unfold walkL walkM ClassD.wf MethD.wf InsD.wf i64B
  simp
theorem mark_at {w : World} {vs : Array Value} {t : TypeId} {f : Nat × Nat} {k b : Nat} (hb : b = w.heap.size) : (w.alloc (.cells vs t f)).cell? ⟨b, k, none⟩ = vs[k]? := by
  subst hb
  exact World.cell?_alloc_mark ..
theorem mark_past {w : World} {o : Obj} {k b : Nat} {x : Option Value} (hb : b < w.heap.size) (h : w.cell? ⟨b, k, none⟩ = x) : (w.alloc o).cell? ⟨b, k, none⟩ = x := (World.cell?_alloc_lt w o ⟨b, k, none⟩ hb).trans h
theorem field_lit1 {w : World} {x : FieldD} {t : TypeId} {f : Nat × Nat} {b : Nat} (hb : b = w.heap.size) : FieldRow (w.alloc (.cells #[.string (bs x.nm), .string (bs x.ty)] t f)) (some ⟨b, 0, none⟩) 1 1 [x] := by
  refine ⟨rfl, Nat.le_refl _, fun _ => ⟨_, _, rfl, by simp [hb], fun j y hy => ?_⟩⟩
  match j, hy with
  | 0, hy =>
    obtain rfl := Option.some.inj hy
    exact ⟨mark_at hb, mark_at hb⟩
theorem meth_lit1 {w : World} {m : MethD} {t : TypeId} {f : Nat × Nat} {b c : Nat} (hb : b = w.heap.size) (h : InsRow w (some ⟨c, 0, none⟩) 1 1 m.code) (hs : m.hs = []) :
    MethRow (w.alloc (.cells #[.string (bs m.nm), .string (bs m.ty), .bool m.st, .bool m.ab, .bool m.pr, .int .i64 m.lo, .slice (some ⟨c, 0, none⟩) 1 1, .slice none 0 0] t f)) (some ⟨b, 0, none⟩) 1 1 [m] := by
  refine ⟨rfl, Nat.le_refl _, fun _ => ⟨_, _, rfl, by simp [hb], fun j y hy => ?_⟩⟩
  match j, hy with
  | 0, hy =>
    obtain rfl := Option.some.inj hy
    exact ⟨mark_at hb, mark_at hb, mark_at hb, mark_at hb, mark_at hb, mark_at hb, ⟨_, 1, 1, mark_at hb, h.alloc _, fun h => by cases h⟩, ⟨none, 0, 0, mark_at hb, by rw [hs]; exact SRow.nil_ _ _ _, fun _ => ⟨rfl, rfl⟩⟩⟩
set_option maxRecDepth 20000 in
set_option maxHeartbeats 4000000 in
theorem walks_any (w : World) : Calls Tryz.prog 12 #[] w fun e w' => ∃ b, e = .returned (.slice (some ⟨b, 0, none⟩) 3 3) ∧ ClassRow w' (some ⟨b, 0, none⟩) 3 3 walkL ∧ Below w.heap.size w w' := by
  go_enter Tryz.func12, Tryz.ntmps12
  go_wp2
  go_ret
  refine ⟨_, rfl, ⟨rfl, Nat.le_refl _, fun _ => ⟨_, _, rfl, by simp, fun j x hx => ?_⟩⟩, by repeat (first | exact Below.refl _ _ | refine bal_ ?_ (by simp; omega) | refine bal_ ?_ (by simp))⟩
  match j, hx with
  | 0, hx =>
    obtain rfl := Option.some.inj hx
    refine ⟨mark_at (by simp), mark_at (by simp), ⟨none, 0, 0, mark_at (by simp), SRow.nil_ _ _ _, fun _ => ⟨rfl, rfl⟩⟩, mark_at (by simp), ⟨_, 1, 1, mark_at (by simp), ?_, fun h => by cases h⟩, ⟨_, 1, 1, mark_at (by simp), ?_, fun h => by cases h⟩⟩
    · repeat (first | exact field_lit1 (x := ⟨legsB, [73]⟩) (by simp) | refine FieldRow.below ?_ (al1 _ _))
    · refine MethRow.below (MethRow.below (MethRow.below (meth_lit1 (m := walkM) (by simp) (by repeat (first | exact InsRow.lit w ⟨26, 0, 0, [], [], []⟩ _ _ | refine InsRow.alloc ?_ _)) rfl) (al1 _ _)) (al1 _ _)) (al1 _ _)
  | 1, hx =>
    obtain rfl := Option.some.inj hx
    refine ⟨mark_at (by simp), mark_at (by simp), ⟨none, 0, 0, mark_at (by simp), SRow.nil_ _ _ _, fun _ => ⟨rfl, rfl⟩⟩, mark_at (by simp), ⟨_, 1, 1, mark_at (by simp), ?_, fun h => by cases h⟩, ⟨_, 1, 1, mark_at (by simp), ?_, fun h => by cases h⟩⟩
    · repeat (first | exact field_lit1 (x := ⟨tailB, [74]⟩) (by simp) | refine FieldRow.below ?_ (al1 _ _))
    · refine MethRow.below (meth_lit1 (m := walkM) (by simp) (by repeat (first | exact InsRow.lit w ⟨26, 0, 0, [], [], []⟩ _ _ | refine InsRow.alloc ?_ _)) rfl) (al1 _ _)
  | 2, hx =>
    obtain rfl := Option.some.inj hx
    refine ⟨mark_at (by simp), mark_at (by simp), ⟨none, 0, 0, mark_at (by simp), SRow.nil_ _ _ _, fun _ => ⟨rfl, rfl⟩⟩, mark_at (by simp), ⟨none, 0, 0, mark_at (by simp), SRow.nil_ _ _ _, fun _ => ⟨rfl, rfl⟩⟩, ⟨none, 0, 0, mark_at (by simp), SRow.nil_ _ _ _, fun _ => ⟨rfl, rfl⟩⟩⟩
  | j + 3, hx => exact absurd hx (by simp [walkL])
theorem cat_field (K : FindFields) (b : Nat) (W : World) (T : Tab W) (R : ClassRow W (some ⟨b, 0, none⟩) 3 3 walkL) :
    Calls Tryz.prog 6 #[.slice (some ⟨b, 0, none⟩) 3 3, .string ⟨#[67, 97, 116]⟩, .string ⟨#[108, 101, 103, 115]⟩] W fun e w' => e = .returned (.tuple #[.string ⟨#[66, 101, 97, 115, 116]⟩, .agg #[.string ⟨#[108, 101, 103, 115]⟩, .string ⟨#[73]⟩], .nilIface]) ∧ Below W.heap.size W w' :=
  have h0 : foundQ walkL 0 catB (some (beastB, (⟨legsB, [73]⟩ : FieldD))) = 0 := foundQ_some (by decide)
  (K walkL 0 catB legsB _ (some ⟨b, 0, none⟩) 3 3 W walk_is cat_legs T R (fun h => by cases h) upto_walk wf_walk (by decide) (by decide) (by decide)).mono fun e w' ⟨h1, h2⟩ => ⟨by rw [h1, h0]; rfl, h2⟩
set_option maxRecDepth 20000 in
set_option maxHeartbeats 2000000 in
theorem found_any (K : FindFields) (w : World) (T : Tab w) : Calls Tryz.prog 4 #[] w fun e w' => e = .returned (.bool true) ∧ Below w.heap.size w w' := by
  have H1 := Lib.hid (fun b W T R => cat_field K b W T R)
  have HT := Lib.hid T
  clear K T
  go_enter Tryz.func4, Tryz.ntmps4
  go_wp2_with (first
    | (go_at_call 12; (with_reducible refine (walks_any _).mono ?_); rintro e w1 ⟨b, rfl, hr, hb⟩
       have HR1 := Lib.hid hr
       have HB1 := Lib.hid hb
       clear hr hb)
    | (go_at_call 6; (with_reducible refine (H1.out _ _ (HT.out.below HB1.out) HR1.out).mono ?_); rintro e w2 ⟨rfl, hb⟩
       have HB2 := Lib.hid (bnext HB1.out hb)
       clear hb))
  go_ret
  exact ⟨rfl, bal_ HB2.out HB2.out.size⟩
end Go.Proofs.YtkolpbjpgobkcaaGreatDoor
