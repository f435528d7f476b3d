/- Two lists of texts compared (coffeehousesame.Texts). -/
import Derived.Test.YtdpkjmdmmhnfnaaGreatDoorGB
namespace Go.Proofs.YtdpkjmdmmhnfnaaGreatDoor
open Go.ChangeShapes Go.WideShapes Go.ChangeAt Go.RowKit
set_option linter.unusedVariables false
attribute [local go_sem] eqGuard_errV_nil eqGuard_errV_iface eql_errV_nil neq_errV_nil eql_errV_form

theorem take_same {α : Type} {l m : List α} (hl : l.length = m.length) {k : Nat} (h : k < l.length) (h' : k < m.length) (hk : l.take k = m.take k) (he : l[k] = m[k]) : l.take (k + 1) = m.take (k + 1) := by
  rw [List.take_succ_eq_append_getElem h, List.take_succ_eq_append_getElem h', hk, he]
end Go.Proofs.YtdpkjmdmmhnfnaaGreatDoor
