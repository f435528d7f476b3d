/- law2.lived, from what world.Supers says. -/
import Derived.Test.YtdpkjmdmmhnfnaaGreatDoorWoB
import Derived.Test.YtdpkjmdmmhnfnaaGreatDoorDe2T
namespace Go.Proofs.YtdpkjmdmmhnfnaaGreatDoor
open Go.ChangeShapes Go.WideShapes Go.ChangeAt Go.RowKit
set_option linter.unusedVariables false
attribute [local go_sem] eqGuard_errV_nil eqGuard_errV_iface eql_errV_nil neq_errV_nil eql_errV_form

theorem cat_supers (K : WorldSupers) (b : Nat) (W : World) (T : Tab W) (R : ClassRow W (some ⟨b, 0, none⟩) 2 2 beastL) :
    Calls Tryz.prog 30 #[.slice (some ⟨b, 0, none⟩) 2 2, .string ⟨#[67, 97, 116]⟩] W fun e w' => ∃ A c, e = .returned (.tuple #[.slice A 3 c, .nilIface]) ∧ Own w' W.heap.size (.slice A 3 c) [catB, beastB, objB] ∧ Below W.heap.size W w' :=
  (K beastL 0 catB (some ⟨b, 0, none⟩) 2 2 W beast_is T R (fun h => by cases h) upto_beast wf_beast (by decide) (by decide)).mono fun e w' h => by
    obtain ⟨A, s, c, h1, h2, h3, _, h5⟩ := lists_ok (namedQ_zero.2 ⟨rfl, by decide⟩) h
    obtain rfl := h3.one cat_chain
    exact ⟨A, c, h1, h2, h5⟩
end Go.Proofs.YtdpkjmdmmhnfnaaGreatDoor
