/- Texts put together. -/
import Derived.Test.YtnmfcckahglbbaaGreatDoorGA
namespace Go.Proofs.YtnmfcckahglbbaaGreatDoor
open Go.RowKit
set_option linter.unusedVariables false

theorem ret_str {a b : ByteArray} (h : a = b) : Ending.returned (.string a) = .returned (.string b) := by rw [h]
theorem bs_cons (c : UInt8) (t : List UInt8) : (⟨#[c]⟩ : ByteArray) ++ bs t = bs (c :: t) := by
  apply ByteArray.ext
  simp [bs, ByteArray.data_append]
theorem bs_snoc (t : List UInt8) (c : UInt8) : bs t ++ (⟨#[c]⟩ : ByteArray) = bs (t ++ [c]) := by
  apply ByteArray.ext
  simp [bs, ByteArray.data_append]
end Go.Proofs.YtnmfcckahglbbaaGreatDoor
