/- Discrepancies: the model's side. -/
import Derived.Test.YtaockgegghmphabSysI
import Derived.Test.YtaockgegghmphabCnt10
namespace Go.Proofs.Ytaockgegghmphab
open Go.ChangeShapes Go.WideShapes Go.ChangeAt Go.RowKit Go.Deep
set_option linter.unusedVariables false
end Go.Proofs.Ytaockgegghmphab
