/- The helpers of the laws that draw out of bytes. -/
import Derived.Test.YtpdcmhnaedhkdabDoorPlain
namespace Go.Proofs.YtpdcmhnaedhkdabDoor
open Go.ChangeShapes Go.WideShapes Go.ChangeAt Go.RowKit
set_option linter.unusedVariables false
end Go.Proofs.YtpdcmhnaedhkdabDoor
