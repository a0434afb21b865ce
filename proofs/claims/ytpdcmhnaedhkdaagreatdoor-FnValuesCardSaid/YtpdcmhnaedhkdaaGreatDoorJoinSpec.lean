/- Lists as texts: the model's side. -/
import Derived.Test.YtpdcmhnaedhkdaaGreatDoorJoin
import Derived.Laws.Concat
namespace Go.Proofs.YtpdcmhnaedhkdaaGreatDoor
open Go.ChangeShapes Go.WideShapes Go.ChangeAt Go.RowKit
set_option linter.unusedVariables false
theorem bstr_cat (a b : List UInt8) : bstr a ++ bstr b = bstr (a ++ b) := by unfold bstr; rw [ByteArray.mk_append_mk]; first | done | simp
theorem bstr_comma (a : List UInt8) : (⟨#[44]⟩ : ByteArray) ++ bstr a = bstr (44 :: a) := by show bstr [44] ++ bstr a = _; rw [bstr_cat]; rfl
theorem bstr_size (a : List UInt8) : (bstr a).size = a.length := by simp [bstr, ByteArray.size]
end Go.Proofs.YtpdcmhnaedhkdaaGreatDoor
