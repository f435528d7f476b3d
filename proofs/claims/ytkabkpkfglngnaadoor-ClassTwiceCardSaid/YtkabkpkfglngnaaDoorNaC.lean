/- name.Check where there is a name and where there is none. -/
import Derived.Test.YtkabkpkfglngnaaDoorNaP
import Derived.Test.YtkabkpkfglngnaaDoorLaw
import Derived.Deep.QuietTactic
import Derived.BigQuiet
import Derived.RegionTactic
import Derived.ChangeAlike
import Derived.Laws.IdiomStrings
namespace Go.Proofs.YtkabkpkfglngnaaDoor
open Go.ChangeShapes Go.WideShapes Go.ChangeAt Go.RowKit
open Go.ChangeMaps (open_string shut_string)
set_option linter.unusedVariables false

attribute [local go_sem] eqGuard_errV_nil eqGuard_errV_iface eql_errV_nil neq_errV_nil eql_errV_form

theorem check_yes (s : ByteArray) (w : World) (h : nameB s.data.toList = true) (hs : s.size ≤ maxLen) : Calls Tryd.prog 11 #[.string s] w fun e w' => e = .returned (errV 0) ∧ w = w' :=
  (check_any s w hs).mono fun _ _ ⟨he, hw⟩ => ⟨by rw [he, nameF_yes h], hw⟩
theorem check_no (s : ByteArray) (w : World) (h : nameB s.data.toList = false) (hs : s.size ≤ maxLen) : Calls Tryd.prog 11 #[.string s] w fun e w' => e = .returned (errV 1) ∧ w = w' :=
  (check_any s w hs).mono fun _ _ ⟨he, hw⟩ => ⟨by rw [he, nameF_no h], hw⟩
end Go.Proofs.YtkabkpkfglngnaaDoor
