/- law2.catJoins, from what package join says. -/
import Derived.Test.YtnmfcckahglbbaaGreatDoorJoK
namespace Go.Proofs.YtnmfcckahglbbaaGreatDoor
open Go.ChangeShapes Go.WideShapes Go.ChangeAt Go.RowKit
set_option linter.unusedVariables false
attribute [local go_sem] eqGuard_errV_nil eqGuard_errV_iface eql_errV_nil neq_errV_nil eql_errV_form

def catT : List UInt8 := [76, 67, 97, 116, 59]
def beastT : List UInt8 := [76, 66, 101, 97, 115, 116, 59]
theorem cat_joins (K : JoinJoins) (b : Nat) (W : World) (T : Tab W) (R : ClassRow W (some ⟨b, 0, none⟩) 2 2 beastL) :
    Calls Tryz.prog 9 #[.slice (some ⟨b, 0, none⟩) 2 2, .string ⟨#[76, 67, 97, 116, 59]⟩, .string ⟨#[76, 66, 101, 97, 115, 116, 59]⟩] W fun e w' => e = .returned (.tuple #[.string ⟨#[76, 66, 101, 97, 115, 116, 59]⟩, .nilIface]) ∧ Below W.heap.size W w' :=
  have h0 : kindsQ beastL 0 catT beastT = 0 := by decide
  (K beastL 0 catT beastT beastT (some ⟨b, 0, none⟩) 2 2 W beast_is (fun _ => ⟨.cls 0 catB, .cls 0 beastB, ⟨by decide, by decide⟩, ⟨by decide, by decide⟩, rfl, rfl, by decide⟩) (fun h => absurd h0 h) T R (fun h => by cases h) upto_beast wf_beast (by decide) (by decide) (by decide)).mono fun e w' ⟨h1, h2⟩ => ⟨by rw [h1, h0]; rfl, h2⟩
set_option maxRecDepth 20000 in
set_option maxHeartbeats 2000000 in
theorem catJoins_any (K : JoinJoins) (w : World) (T : Tab w) : Calls Tryz.prog 7 #[] w fun e w' => e = .returned (.bool true) ∧ Below w.heap.size w w' := by
  have H1 := Lib.hid (fun b W T R => cat_joins K b W T R)
  have HT := Lib.hid T
  clear K T
  go_enter Tryz.func7, Tryz.ntmps7
  go_wp2_with (first
    | (go_at_call 19; (with_reducible refine (beasts_any w).mono ?_); rintro e w1 ⟨rfl, hr, hb⟩
       have HR1 := Lib.hid hr
       have HB1 := Lib.hid hb
       clear hr hb)
    | (go_at_call 9; (with_reducible refine (H1.out _ _ (HT.out.below HB1.out) HR1.out).mono ?_); rintro e w2 ⟨rfl, hb⟩
       have HB2 := Lib.hid (bnext HB1.out hb)
       clear hb))
  go_ret
  exact ⟨rfl, HB2.out⟩
end Go.Proofs.YtnmfcckahglbbaaGreatDoor
