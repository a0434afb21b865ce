/- The best rounding with a sum: the model's side. -/
import Derived.Test.YtmckbjhmkcbjgabFixed4
namespace Go.Proofs.Ytmckbjhmkcbjgab
open Go.ChangeShapes Go.WideShapes Go.ChangeAt Go.RowKit Go.Deep
set_option linter.unusedVariables false
end Go.Proofs.Ytmckbjhmkcbjgab
