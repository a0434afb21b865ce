/- Lists compared: the model's l00Same, the program's slices.Equal. -/
import Derived.Test.YtgpnlnmljeahdabMem
import Derived.BigQuiet
namespace Go.Proofs.Ytgpnlnmljeahdab
open Go.ChangeShapes Go.WideShapes Go.ChangeAt Go.RowKit Go.Deep
set_option linter.unusedVariables false
end Go.Proofs.Ytgpnlnmljeahdab
