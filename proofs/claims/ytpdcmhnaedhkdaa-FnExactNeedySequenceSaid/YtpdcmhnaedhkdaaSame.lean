/- Lists compared: the model's l00Same, the program's slices.Equal. -/
import Derived.Test.YtpdcmhnaedhkdaaMem
import Derived.BigQuiet
namespace Go.Proofs.Ytpdcmhnaedhkdaa
open Go.ChangeShapes Go.WideShapes Go.ChangeAt Go.RowKit Go.Deep
set_option linter.unusedVariables false
end Go.Proofs.Ytpdcmhnaedhkdaa
