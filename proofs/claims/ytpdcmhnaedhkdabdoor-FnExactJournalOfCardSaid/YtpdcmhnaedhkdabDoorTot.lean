/- The program's sum of a list. -/
import Derived.Test.YtpdcmhnaedhkdabDoorInts
namespace Go.Proofs.YtpdcmhnaedhkdabDoor
open Go.ChangeShapes Go.WideShapes Go.ChangeAt Go.RowKit
set_option linter.unusedVariables false
end Go.Proofs.YtpdcmhnaedhkdabDoor
