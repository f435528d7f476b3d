/- law2.lived, from what world.Supers says. -/
import Derived.Test.YthcjdkjjjlpjaaaGreatDoorWoB
import Derived.Test.YthcjdkjjjlpjaaaGreatDoorGB
namespace Go.Proofs.YthcjdkjjjlpjaaaGreatDoor
open Go.ChangeShapes Go.WideShapes Go.ChangeAt Go.RowKit
set_option linter.unusedVariables false
attribute [local go_sem] eqGuard_errV_nil eqGuard_errV_iface eql_errV_nil neq_errV_nil eql_errV_form

theorem texts_same_ (A B : Option Addr) (n m c d : Nat) (xs : List (List UInt8)) (w : World) (ha : StrRow w A n c xs) (hb : StrRow w B m d xs) (hm : n < 1048576) :
    Calls Tryz.prog 13 #[.slice A n c, .slice B m d] w fun e w' => e = .returned (.bool true) ∧ ∃ k, w' = w.drewN k :=
  (texts_any A B n m c d xs xs w ha.row hb.row hm).mono fun e w' ⟨h1, h2⟩ => ⟨by rw [h1]; simp, h2⟩
theorem cat_supers (K : WorldSupers) (b : Nat) (W : World) (T : Tab W) (R : ClassRow W (some ⟨b, 0, none⟩) 2 2 beastL) :
    Calls Tryz.prog 9 #[.slice (some ⟨b, 0, none⟩) 2 2, .string ⟨#[67, 97, 116]⟩] W fun e w' => ∃ A c, e = .returned (.tuple #[.slice A 3 c, .nilIface]) ∧ Own w' W.heap.size (.slice A 3 c) [catB, beastB, objB] ∧ Below W.heap.size W w' :=
  (K beastL 0 catB (some ⟨b, 0, none⟩) 2 2 W beast_is T R (fun h => by cases h) upto_beast wf_beast (by decide) (by decide)).mono fun e w' h => by
    obtain ⟨A, s, c, h1, h2, h3, _, h5⟩ := lists_ok (namedQ_zero.2 ⟨rfl, by decide⟩) h
    obtain rfl := h3.one cat_chain
    exact ⟨A, c, h1, h2, h5⟩
set_option maxRecDepth 20000 in
set_option maxHeartbeats 2000000 in
theorem lived_any (K : WorldSupers) (w : World) (T : Tab w) : Calls Tryz.prog 4 #[] w fun e w' => e = .returned (.bool true) ∧ Below w.heap.size w w' := by
  have HK := Lib.hid (fun b W T R => cat_supers K b W T R)
  have HT := Lib.hid T
  clear K T
  go_enter Tryz.func4, Tryz.ntmps4
  go_wp2_with (first
    | (go_at_call 14; (with_reducible refine (beasts_any _).mono ?_); rintro e w1 ⟨rfl, hr, hb⟩
       have HR1 := Lib.hid hr
       have HB1 := Lib.hid hb
       clear hr hb)
    | (go_at_call 9; (with_reducible refine (HK.out _ _ (HT.out.below HB1.out) HR1.out).mono ?_); rintro e w2 ⟨A2, c2, rfl, hv, hb⟩
       have HV2 := Lib.hid (hv.row.below (al1 w2 (.cells #[.string (bs catB), .string (bs beastB), .string (bs objB)] 9)))
       have HL2 := Lib.hid (str_lit3 w2 catB beastB objB 9 (0, 0))
       have HB2 := Lib.hid ((bnext HB1.out hb).alloc (bnext HB1.out hb).size (.cells #[.string (bs catB), .string (bs beastB), .string (bs objB)] 9))
       clear hv hb)
    | (go_at_call 13; refine (texts_same_ _ _ 3 3 _ _ _ _ HV2.out HL2.out (by decide)).mono ?_; rintro e w3 ⟨rfl, k, rfl⟩))
  go_ret
  exact ⟨rfl, below_drawn HB2.out k⟩
end Go.Proofs.YthcjdkjjjlpjaaaGreatDoor
